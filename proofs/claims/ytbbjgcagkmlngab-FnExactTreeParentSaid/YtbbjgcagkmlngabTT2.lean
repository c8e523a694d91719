/- Joined: Bl Qj Qn Qq Qt Hw Hx Yb Cs Hy Qp Qu Hf Hg Hh Hi Ga Gb Gc. -/
import Derived.Shelf.Small.Bits
import Derived.Test.YtbbjgcagkmlngabTT0
import Derived.Lib.BitFns
import Derived.Test.YtbbjgcagkmlngabTT1
import Derived.Lib.AppendZeros
import Derived.Lib.AppendZerosOnto
import Derived.Lib.Overlaps
import Derived.Lib.SliceRun
import Derived.Laws.Externs
import Derived.Laws.IdiomCopy
import Derived.ArgAppend
import Derived.Deep.LoopGhost
import Derived.Shelf.Abstract
import Derived.WalkMore
/- The library's bit length, at this program. -/
namespace Go.Proofs.Ytbbjgcagkmlngab
open Go.Shelf
end Go.Proofs.Ytbbjgcagkmlngab
/- Bit lengths. -/
namespace Go.Proofs.Ytbbjgcagkmlngab
open Go.RowKit

def bl (n : Int) : Nat := Lib.bitLen n.toNat
theorem bl_more {n : Nat} {b : Nat} (hn : n ≤ 1000000) (h : 2 ^ b ≤ n) : b + 1 ≤ Lib.bitLen n := by
  rw [Lib.bitLen_shift b n h (by omega)]
  have h1 : n / 2 ^ b ≠ 0 := by
    have := Nat.div_pos h (Nat.two_pow_pos b)
    omega
  have h2 : n / 2 ^ b ≤ n := Nat.div_le_self _ _
  rw [Lib.bitLen_half (n / 2 ^ b) h1 (by omega)]
  omega
theorem bl_bd {n : Nat} (hn : n ≤ 1000000) : Lib.bitLen n ≤ 20 := Lib.bitLen_le n 20 (by omega) (by omega)

def isNum (n : Int) : Bool := inB n 1 1000000
def bitN (n : Int) : Int := if isNum n then (bl n : Int) else 0
theorem bitN_true {n : Int} (h : isNum n = true) : bitN n = bl n := by unfold bitN; rw [if_pos h]
theorem bitN_false {n : Int} (h : isNum n = false) : bitN n = 0 := by unfold bitN; rw [h]; rfl
theorem isNum_rng {n : Int} (h : isNum n = true) : 1 ≤ n ∧ n ≤ 1000000 := by
  unfold isNum inB at h
  simpa using h


end Go.Proofs.Ytbbjgcagkmlngab
/- Lists that are answered if they are chains; copies of lists. -/
namespace Go.Proofs.Ytbbjgcagkmlngab
open Go.RowKit

/-- A list that is answered if b. -/
def selL (b : Bool) (l : List Int) : List Int := if b then l else []
theorem selL_true {b : Bool} {l : List Int} (h : b = true) : selL b l = l := by unfold selL; rw [if_pos h]
theorem selL_false {b : Bool} {l : List Int} (h : b = false) : selL b l = [] := by unfold selL; rw [h]; rfl
theorem selL_le {b : Bool} {l : List Int} (h : b = true → chG l = true) : (selL b l).length ≤ 1000 := by
  cases b with
  | false => simp [selL]
  | true => have := (chG_chn (h rfl)).most; rw [selL_true rfl]; omega
theorem and_chG {b : Bool} {l : List Int} (h : (b && chG l) = true) : chG l = true := by simp only [Bool.and_eq_true] at h; exact h.2

end Go.Proofs.Ytbbjgcagkmlngab
/- A number put into a list of own memory, by the library. -/
namespace Go.Proofs.Ytbbjgcagkmlngab
open Go.RowKit

/-- The operation copy, where its run is known. -/
theorem at_copy (w : World) {o : Oper} {a : Act} {K : Act → World → Prop} {Q : Exit → Act → World → Prop} (d s : Operand) (t t' : TypeId)
    (ho : o.op = .call { callee := .builtin .copy, args := #[d, s], argTypes := #[t, t'] }) (v u : Value) (hd : a.eval d = v) (hs : a.eval s = u) {v' : Value} {w' : World}
    (hr : (Builtin.copy_ #[t, t'] o.type #[v, u]).run Try.prog w = .ok v' w') (h : K (a.put o.dst v') w') : o.wp Try.prog a w K Q := by
  unfold Oper.wp execOp
  simp only [ho, resolve, invoke, builtin, Sem.run_bind, Sem.run_pure, Result.andThen_ok, List.map_toArray, List.map_cons, List.map_nil, hd, hs, hr]
  exact h
theorem list_copy (w : World) {ops : Array Oper} {rest : List Oper} {o : Oper} {a : Act} {Q : Exit → Act → World → Prop} (hgd : o.guard = none) (d s : Operand) (t t' : TypeId)
    (ho : o.op = .call { callee := .builtin .copy, args := #[d, s], argTypes := #[t, t'] }) (v u : Value) (hd : a.eval d = v) (hs : a.eval s = u) {v' : Value} {w' : World}
    (hr : (Builtin.copy_ #[t, t'] o.type #[v, u]).run Try.prog w = .ok v' w') (h : wpList Try.prog ops Q rest (a.put o.dst v') w') : wpList Try.prog ops Q (o :: rest) a w :=
  wpList_plain hgd fun _ hK => at_copy w d s t t' ho v u hd hs hr (hK _ _ h)
theorem step_copy {ops : Array Oper} {o : Oper} {a : Act} {w : World} {K : Act → World → Prop} {Q : Exit → Act → World → Prop} {E : Prop}
    (hg : o.guard = none) (d x : Operand) (dT sT : TypeId) (hop : o.op = Op.call { callee := Callee.builtin Builtin.copy, args := #[d, x], argTypes := #[dT, sT] })
    (v u : Value) (hd : a.eval d = v) (hx : a.eval x = u) {v' : Value} {w' : World} (hr : (Builtin.copy_ #[dT, sT] o.type #[v, u]).run Try.prog w = .ok v' w') (hK : K (a.put o.dst v') w') :
    if Region.wanted o (yielded ops a.tmps) = true then Oper.wp Try.prog o a w K Q else E := by
  have hw : Region.wanted o (yielded ops a.tmps) = true := by simp [Region.wanted, hg]
  rw [if_pos hw]
  unfold Oper.wp
  simp [execOp, hop, resolve, invoke, builtin, hd, hx, hr, Result.andThen]
  exact hK

/-- Stores of a list keep the block's size and type. -/
theorem setCells_heap (b : Nat) : ∀ (vs : List Value) (o : Nat) (w : World) (cur : Array Value) (t : TypeId), w.heap[b]? = some (.cells cur t (0, 0)) →
    ∃ cur', (w.setCells b o vs).heap[b]? = some (.cells cur' t (0, 0)) ∧ cur'.size = cur.size
  | [], _, _, cur, _, h => ⟨cur, h, rfl⟩
  | v :: vs, o, _, cur, t, h => by
    have h1 := heap_setCell_same _ b o cur t v h
    obtain ⟨cur', h2, h3⟩ := setCells_heap b vs (o + 1) _ _ t h1
    exact ⟨cur', h2, by rw [h3]; simp⟩
theorem setCells_below {B b : Nat} (hB : B ≤ b) : ∀ (vs : List Value) (o : Nat) (w0 w : World), Below B w0 w → Below B w0 (w.setCells b o vs)
  | [], _, _, _, h => h
  | v :: vs, o, w0, _, h => setCells_below hB vs (o + 1) w0 _ (h.setCell (p := ⟨b, o, none⟩) hB v)
/-- A row by its block and its cells. -/
theorem own_cells_mk {w : World} {B g cap n : Nat} {cur : Array Value} {t : TypeId} {xs : List Value} (hB : B ≤ g) (hg : w.heap[g]? = some (.cells cur t (0, 0))) (hs : cur.size = cap) (hn : n ≤ cap) (hM : cap ≤ maxLen) (hl : xs.length = n)
    (hc : ∀ j, j < n → w.cell? ⟨g, j, none⟩ = xs[j]?) : w.ownsRow B t 1 (.slice (some ⟨g, 0, none⟩) n cap) n xs := by
  refine ⟨by omega, .inr ⟨g, cap, cur, rfl, hB, hg, hn, hM, by omega, ?_⟩⟩
  refine List.ext_getElem (by rw [List.length_take, Array.length_toList]; omega) fun j h1 h2 => ?_
  have hj : j < n := by omega
  have h := hc j hj
  unfold World.cell? at h
  rw [hg] at h
  simp only [Option.isSome_none, Bool.false_eq_true, if_false] at h
  rw [List.getElem?_eq_getElem h2] at h
  rw [List.getElem_take]
  have h3 : j < cur.size := by omega
  rw [Array.getElem?_eq_getElem h3] at h
  simp only [Option.some.injEq] at h
  rw [Array.getElem_toList]
  exact h
/-- The list with x at index i. -/
def insA (l : List Int) (i : Nat) (x : Int) : List Int := l.take i ++ x :: l.drop i
theorem insA_length (l : List Int) {i : Nat} (x : Int) (hi : i ≤ l.length) : (insA l i x).length = l.length + 1 := by
  unfold insA
  rw [List.length_append, List.length_cons, List.length_take, List.length_drop]
  omega
theorem insA_at (l : List Int) {i : Nat} (x : Int) (hi : i ≤ l.length) (j : Nat) : ((insA l i x).map I)[j]? = if j < i then (l.map I)[j]? else if j = i then some (I x) else (l.map I)[j - 1]? := by
  unfold insA
  rw [List.map_append, List.map_cons, List.map_take, List.map_drop]
  by_cases h1 : j < i
  · rw [if_pos h1, List.getElem?_append_left (by simp; omega), List.getElem?_take, if_pos h1]
  · rw [if_neg h1, List.getElem?_append_right (by simp; omega)]
    have e : (List.take i (l.map I)).length = i := by simp; omega
    rw [e]
    by_cases h2 : j = i
    · subst h2
      simp
    · rw [if_neg h2, show j - i = (j - i - 1) + 1 by omega, List.getElem?_cons_succ, List.getElem?_drop]
      congr 1
      omega

theorem cells_some {w : World} {b : Nat} {cur : Array Value} {t : TypeId} (h : w.heap[b]? = some (.cells cur t (0, 0))) {j : Nat} (hj : j < cur.size) : (w.cell? ⟨b, j, none⟩).isSome = true := by
  unfold World.cell?
  rw [h]
  simp [hj]
theorem cells_free {w : World} {b : Nat} {cur : Array Value} {t : TypeId} (h : w.heap[b]? = some (.cells cur t (0, 0))) (j : Nat) : w.frozen? ⟨b, j, none⟩ = false := by
  unfold World.frozen?
  rw [h]
  simp
theorem cells_shape {w : World} {b : Nat} {cur : Array Value} {t : TypeId} (h : w.heap[b]? = some (.cells cur t (0, 0))) : w.shape? b = some (t, cur.size) := by
  unfold World.shape?
  rw [h]
theorem isSome_set (b : Nat) (vs : List Value) (o : Nat) (w : World) (h : ∀ j, j < vs.length → (w.cell? ⟨b, o + j, none⟩).isSome = true) (k : Nat) (hk : (w.cell? ⟨b, k, none⟩).isSome = true) : ((w.setCells b o vs).cell? ⟨b, k, none⟩).isSome = true := by
  by_cases hin : o ≤ k ∧ k < o + vs.length
  · have := World.cell?_setCells_in b vs o w h (k - o) (by omega)
    rw [show o + (k - o) = k by omega] at this
    rw [this]; rfl
  · rw [World.cell?_setCells_out b vs o w ⟨b, k, none⟩ (fun _ _ => by show k < o ∨ o + vs.length ≤ k; omega)]
    exact hk

theorem cell_blk {w : World} {b o : Nat} {v : Value} (h : w.cell? ⟨b, o, none⟩ = some v) : b < w.heap.size := by
  unfold World.cell? at h
  simp only at h
  cases hb : w.heap[b]? with
  | none => rw [hb] at h; simp at h
  | some o => exact (Array.getElem?_eq_some_iff.1 hb).1

end Go.Proofs.Ytbbjgcagkmlngab
/- A number put into a rising list. -/
namespace Go.Proofs.Ytbbjgcagkmlngab
open Go.RowKit

/-- The list with x at its place. -/
def putI (l : List Int) (x : Int) : List Int := if x ∈ l then l else insA l (cnt l x) x
theorem putI_has {l : List Int} {x : Int} (h : x ∈ l) : putI l x = l := by unfold putI; rw [if_pos h]
theorem putI_new {l : List Int} {x : Int} (h : ¬ x ∈ l) : putI l x = insA l (cnt l x) x := by unfold putI; rw [if_neg h]
theorem cnt_le (l : List Int) (x : Int) : cnt l x ≤ l.length := List.countP_le_length
theorem putI_le (l : List Int) (x : Int) : (putI l x).length ≤ l.length + 1 := by
  unfold putI
  split
  · omega
  · rw [insA_length l x (cnt_le l x)]; omega
theorem insA_getD (l : List Int) {i : Nat} (x : Int) (hi : i ≤ l.length) (j : Nat) : (insA l i x).getD j 0 = if j < i then l.getD j 0 else if j = i then x else l.getD (j - 1) 0 := by
  unfold insA
  rw [List.getD_eq_getElem?_getD]
  by_cases h1 : j < i
  · rw [if_pos h1, List.getElem?_append_left (by simp; omega), List.getElem?_take, if_pos h1, List.getD_eq_getElem?_getD]
  · rw [if_neg h1, List.getElem?_append_right (by simp; omega)]
    have e : (List.take i l).length = i := by simp; omega
    rw [e]
    by_cases h2 : j = i
    · subst h2
      simp
    · rw [if_neg h2, show j - i = (j - i - 1) + 1 by omega, List.getElem?_cons_succ, List.getElem?_drop, List.getD_eq_getElem?_getD, show i + (j - i - 1) = j - 1 by omega]
/-- What lies before the place is less, what lies behind it greater. -/
theorem cnt_parts {l : List Int} (ha : Asc l) (x : Int) : (∀ t, t < cnt l x → l.getD t 0 < x) ∧ ∀ t, cnt l x ≤ t → t < l.length → x ≤ l.getD t 0 := by
  have key : ∀ n, n ≤ l.length → ∃ i, i ≤ n ∧ (∀ t, t < i → l.getD t 0 < x) ∧ ∀ t, i ≤ t → t < n → x ≤ l.getD t 0 := by
    intro n
    induction n with
    | zero => intro _; exact ⟨0, by omega, fun t h => absurd h (by omega), fun t _ h => absurd h (by omega)⟩
    | succ n ih =>
      intro hn
      obtain ⟨i, h1, h2, h3⟩ := ih (by omega)
      by_cases hi : i = n
      · by_cases hx : l.getD n 0 < x
        · refine ⟨n + 1, by omega, fun t ht => ?_, fun t h h' => absurd h (by omega)⟩
          rcases Nat.lt_or_eq_of_le (Nat.le_of_lt_succ ht) with h | rfl
          · exact h2 t (by omega)
          · exact hx
        · refine ⟨i, by omega, h2, fun t h h' => ?_⟩
          have : t = n := by omega
          subst this
          omega
      · refine ⟨i, by omega, h2, fun t h h' => ?_⟩
        rcases Nat.lt_or_eq_of_le (Nat.le_of_lt_succ h') with h'' | rfl
        · exact h3 t h h''
        · have := h3 i (Nat.le_refl _) (by omega)
          have := ha i t (by omega) (by omega)
          omega
  obtain ⟨i, h1, h2, h3⟩ := key l.length (Nat.le_refl _)
  rw [cnt_at h1 h2 h3]
  exact ⟨h2, h3⟩
theorem mem_getD {l : List Int} {t : Nat} (h : t < l.length) : l.getD t 0 ∈ l := by
  have e : l.getD t 0 = l[t] := by simp [h]
  rw [e]
  exact List.getElem_mem h
theorem putI_asc {l : List Int} (ha : Asc l) (x : Int) : Asc (putI l x) := by
  by_cases hx : x ∈ l
  · rw [putI_has hx]; exact ha
  · rw [putI_new hx]
    obtain ⟨h1, h2⟩ := cnt_parts ha x
    have hc := cnt_le l x
    intro i j hij hj
    rw [insA_length l x hc] at hj
    rw [insA_getD l x hc, insA_getD l x hc]
    have h3 : ∀ t, cnt l x ≤ t → t < l.length → x < l.getD t 0 := fun t h h' => by
      have := h2 t h h'
      rcases Int.lt_or_eq_of_le this with h4 | h4
      · exact h4
      · exact absurd (h4 ▸ mem_getD h') hx
    by_cases c1 : i < cnt l x
    · rw [if_pos c1]
      by_cases c2 : j < cnt l x
      · rw [if_pos c2]; exact ha i j hij (by omega)
      · rw [if_neg c2]
        by_cases c3 : j = cnt l x
        · rw [if_pos c3]; exact h1 i c1
        · rw [if_neg c3]; exact ha i (j - 1) (by omega) (by omega)
    · rw [if_neg c1, if_neg (by omega : ¬ j < cnt l x), if_neg (by omega : ¬ j = cnt l x)]
      by_cases c3 : i = cnt l x
      · rw [if_pos c3]; exact h3 (j - 1) (by omega) (by omega)
      · rw [if_neg c3]; exact ha (i - 1) (j - 1) (by omega) (by omega)

end Go.Proofs.Ytbbjgcagkmlngab
/- The power tree as data: the program's and the model's. -/
namespace Go.Proofs.Ytbbjgcagkmlngab

/- The program's: all ways up to 400, one after the other. -/
def addW (p : List Nat) (T : List (List Nat)) (a : Nat) : List (List Nat) := if lastN p + a ≤ 400 ∧ T.all (fun q => !(lastN q == lastN p + a)) = true then T ++ [p ++ [lastN p + a]] else T
def procW (T : List (List Nat)) (i : Nat) : List (List Nat) := (T.getD i []).foldl (addW (T.getD i [])) T
def procJ (T : List (List Nat)) (i j : Nat) : List (List Nat) := ((T.getD i []).take j).foldl (addW (T.getD i [])) T
def runW : Nat → Nat → List (List Nat) → List (List Nat)
  | 0, _, T => T
  | f + 1, i, T => if i < T.length then runW f (i + 1) (procW T i) else T
def treeT : List (List Nat) := runW 400 0 [[1]]
theorem addW_pre (p : List Nat) (T : List (List Nat)) (a : Nat) : T <+: addW p T a := by
  unfold addW
  split
  · exact List.prefix_append _ _
  · exact List.prefix_refl _
theorem foldW_pre (p : List Nat) : ∀ (l : List Nat) (T : List (List Nat)), T <+: l.foldl (addW p) T := by
  intro l
  induction l with
  | nil => intro T; exact List.prefix_refl _
  | cons a l ih => intro T; exact (addW_pre p T a).trans (ih _)
theorem runW_pre : ∀ f i (T : List (List Nat)), T <+: runW f i T := by
  intro f
  induction f with
  | zero => intro i T; exact List.prefix_refl _
  | succ f ih =>
    intro i T
    unfold runW
    split
    · exact (foldW_pre _ _ T).trans (ih (i + 1) _)
    · exact List.prefix_refl _
theorem procJ_pre (T : List (List Nat)) (i j : Nat) : procJ T i j <+: procW T i := by
  unfold procJ procW
  have e : (T.getD i []) = (T.getD i []).take j ++ (T.getD i []).drop j := (List.take_append_drop _ _).symm
  have h : (T.getD i []).foldl (addW (T.getD i [])) T = ((T.getD i []).drop j).foldl (addW (T.getD i [])) (((T.getD i []).take j).foldl (addW (T.getD i [])) T) := by
    rw [← List.foldl_append, List.take_append_drop]
  rw [h]
  exact foldW_pre _ _ _
theorem procJ_succ (T : List (List Nat)) (i : Nat) {j : Nat} (h : j < (T.getD i []).length) : procJ T i (j + 1) = addW (T.getD i []) (procJ T i j) ((T.getD i []).getD j 0) := by
  unfold procJ
  rw [List.take_succ_eq_append_getElem h, List.foldl_append]
  have : (T.getD i [])[j] = (T.getD i []).getD j 0 := by rw [List.getD_eq_getElem?_getD (l := T.getD i []), List.getElem?_eq_getElem h]; rfl
  rw [this]
  rfl
theorem procJ_end (T : List (List Nat)) (i : Nat) : procJ T i (T.getD i []).length = procW T i := by
  unfold procJ procW
  rw [List.take_of_length_le (Nat.le_refl _)]
theorem runW_step {f i : Nat} {T : List (List Nat)} (h : i < T.length) : runW (f + 1) i T = runW f (i + 1) (procW T i) := if_pos h
theorem runW_end {f i : Nat} {T : List (List Nat)} (h : ¬ i < T.length) : runW f i T = T := by
  cases f with
  | zero => rfl
  | succ f => exact if_neg h

/- The model's: level by level. -/
def grA (p : List Nat) (st : List (List Nat) × List Int) (a : Nat) : List (List Nat) × List Int := if st.2.contains ((lastN p + a : Nat) : Int) then st else (st.1 ++ [p ++ [lastN p + a]], putI st.2 ((lastN p + a : Nat) : Int))
def grP (st : List (List Nat) × List Int) (p : List Nat) : List (List Nat) × List Int := p.foldl (grA p) st
def growD (st : List (List Nat) × List Int) : List (List Nat) × List Int := st.1.foldl grP ([], st.2)
def grK : Nat → List (List Nat) × List Int
  | 0 => ([[1]], [1])
  | k + 1 => growD (grK k)

/-- Some rounds of it, each of which has a way to go on from. -/
def stepsC : Nat → Nat → List (List Nat) → Option (List (List Nat))
  | 0, _, T => some T
  | k + 1, i, T => if i < T.length then stepsC k (i + 1) (procW T i) else none
theorem stepsC_run : ∀ (k f i : Nat) (T T' : List (List Nat)), stepsC k i T = some T' → runW (f + k) i T = runW f (i + k) T' := by
  intro k
  induction k with
  | zero =>
    intro f i T T' h
    have e : T = T' := by injection h
    subst e
    rfl
  | succ k ih =>
    intro f i T T' h
    unfold stepsC at h
    split at h
    · rename_i hlt
      rw [show f + (k + 1) = (f + k) + 1 by omega, runW_step hlt, ih f (i + 1) _ _ h]
      rw [show i + 1 + k = i + (k + 1) by omega]
    · cases h
def treeOk (T : List (List Nat)) : Bool := decide (T.length ≤ 400) && T.all fun p => !p.isEmpty && decide (p.length ≤ 40) && p.all fun a => decide (1 ≤ a) && decide (a ≤ 400)
def levOk (k : Nat) (st : List (List Nat) × List Int) (T : List (List Nat)) : Bool := decide (st.1.length ≤ 500) && decide (st.2.length ≤ 500) && (st.1.all fun p => (p.length == k + 1) && p.all fun a => decide (1 ≤ a) && decide (a ≤ 1024)) && decide (st.1.map lastN = (T.filter fun p => p.length == k + 1).map lastN)
def levsOk (T : List (List Nat)) : Nat → Nat → (List (List Nat) × List Int) → Bool
  | 0, _, _ => true
  | f + 1, k, st => levOk k st T && levsOk T f (k + 1) (growD st)
end Go.Proofs.Ytbbjgcagkmlngab
/- The program's tree: all of its ways, a few rounds at a time. -/
namespace Go.Proofs.Ytbbjgcagkmlngab
def tL1 : List (List Nat) := [[1],
  [1,2],
  [1,2,3],
  [1,2,4],
  [1,2,3,5],
  [1,2,3,6],
  [1,2,4,8],
  [1,2,3,5,7],
  [1,2,3,5,10]]
theorem tS1 : stepsC 5 0 [[1]] = some tL1 := by decide +kernel
def tL2 : List (List Nat) := [[1],
  [1,2],
  [1,2,3],
  [1,2,4],
  [1,2,3,5],
  [1,2,3,6],
  [1,2,4,8],
  [1,2,3,5,7],
  [1,2,3,5,10],
  [1,2,3,6,9],
  [1,2,3,6,12],
  [1,2,4,8,16],
  [1,2,3,5,7,14],
  [1,2,3,5,10,11],
  [1,2,3,5,10,13],
  [1,2,3,5,10,15],
  [1,2,3,5,10,20],
  [1,2,3,6,9,18],
  [1,2,3,6,12,24],
  [1,2,4,8,16,17],
  [1,2,4,8,16,32]]
theorem tS2 : stepsC 7 5 tL1 = some tL2 := by decide +kernel
def tL3 : List (List Nat) := [[1],
  [1,2],
  [1,2,3],
  [1,2,4],
  [1,2,3,5],
  [1,2,3,6],
  [1,2,4,8],
  [1,2,3,5,7],
  [1,2,3,5,10],
  [1,2,3,6,9],
  [1,2,3,6,12],
  [1,2,4,8,16],
  [1,2,3,5,7,14],
  [1,2,3,5,10,11],
  [1,2,3,5,10,13],
  [1,2,3,5,10,15],
  [1,2,3,5,10,20],
  [1,2,3,6,9,18],
  [1,2,3,6,12,24],
  [1,2,4,8,16,17],
  [1,2,4,8,16,32],
  [1,2,3,5,7,14,19],
  [1,2,3,5,7,14,21],
  [1,2,3,5,7,14,28],
  [1,2,3,5,10,11,22],
  [1,2,3,5,10,13,23],
  [1,2,3,5,10,13,26],
  [1,2,3,5,10,15,25],
  [1,2,3,5,10,15,30],
  [1,2,3,5,10,20,40],
  [1,2,3,6,9,18,27],
  [1,2,3,6,9,18,36],
  [1,2,3,6,12,24,48],
  [1,2,4,8,16,17,33],
  [1,2,4,8,16,17,34],
  [1,2,4,8,16,32,64],
  [1,2,3,5,7,14,19,38],
  [1,2,3,5,7,14,21,35],
  [1,2,3,5,7,14,21,42],
  [1,2,3,5,7,14,28,29],
  [1,2,3,5,7,14,28,31],
  [1,2,3,5,7,14,28,56],
  [1,2,3,5,10,11,22,44]]
theorem tS3 : stepsC 13 12 tL2 = some tL3 := by decide +kernel
def tL4 : List (List Nat) := [[1],
  [1,2],
  [1,2,3],
  [1,2,4],
  [1,2,3,5],
  [1,2,3,6],
  [1,2,4,8],
  [1,2,3,5,7],
  [1,2,3,5,10],
  [1,2,3,6,9],
  [1,2,3,6,12],
  [1,2,4,8,16],
  [1,2,3,5,7,14],
  [1,2,3,5,10,11],
  [1,2,3,5,10,13],
  [1,2,3,5,10,15],
  [1,2,3,5,10,20],
  [1,2,3,6,9,18],
  [1,2,3,6,12,24],
  [1,2,4,8,16,17],
  [1,2,4,8,16,32],
  [1,2,3,5,7,14,19],
  [1,2,3,5,7,14,21],
  [1,2,3,5,7,14,28],
  [1,2,3,5,10,11,22],
  [1,2,3,5,10,13,23],
  [1,2,3,5,10,13,26],
  [1,2,3,5,10,15,25],
  [1,2,3,5,10,15,30],
  [1,2,3,5,10,20,40],
  [1,2,3,6,9,18,27],
  [1,2,3,6,9,18,36],
  [1,2,3,6,12,24,48],
  [1,2,4,8,16,17,33],
  [1,2,4,8,16,17,34],
  [1,2,4,8,16,32,64],
  [1,2,3,5,7,14,19,38],
  [1,2,3,5,7,14,21,35],
  [1,2,3,5,7,14,21,42],
  [1,2,3,5,7,14,28,29],
  [1,2,3,5,7,14,28,31],
  [1,2,3,5,7,14,28,56],
  [1,2,3,5,10,11,22,44],
  [1,2,3,5,10,13,23,46],
  [1,2,3,5,10,13,26,39],
  [1,2,3,5,10,13,26,52],
  [1,2,3,5,10,15,25,50],
  [1,2,3,5,10,15,30,45],
  [1,2,3,5,10,15,30,60],
  [1,2,3,5,10,20,40,41],
  [1,2,3,5,10,20,40,43],
  [1,2,3,5,10,20,40,80],
  [1,2,3,6,9,18,27,54],
  [1,2,3,6,9,18,36,37],
  [1,2,3,6,9,18,36,72],
  [1,2,3,6,12,24,48,49],
  [1,2,3,6,12,24,48,51],
  [1,2,3,6,12,24,48,96],
  [1,2,4,8,16,17,33,66],
  [1,2,4,8,16,17,34,68],
  [1,2,4,8,16,32,64,65],
  [1,2,4,8,16,32,64,128],
  [1,2,3,5,7,14,19,38,57],
  [1,2,3,5,7,14,19,38,76],
  [1,2,3,5,7,14,21,35,70],
  [1,2,3,5,7,14,21,42,47],
  [1,2,3,5,7,14,21,42,63],
  [1,2,3,5,7,14,21,42,84],
  [1,2,3,5,7,14,28,29,58],
  [1,2,3,5,7,14,28,31,59],
  [1,2,3,5,7,14,28,31,62],
  [1,2,3,5,7,14,28,56,61],
  [1,2,3,5,7,14,28,56,112],
  [1,2,3,5,10,11,22,44,55],
  [1,2,3,5,10,11,22,44,88],
  [1,2,3,5,10,13,23,46,69],
  [1,2,3,5,10,13,23,46,92],
  [1,2,3,5,10,13,26,39,78]]
theorem tS4 : stepsC 20 25 tL3 = some tL4 := by decide +kernel
def tL5 : List (List Nat) := [[1],
  [1,2],
  [1,2,3],
  [1,2,4],
  [1,2,3,5],
  [1,2,3,6],
  [1,2,4,8],
  [1,2,3,5,7],
  [1,2,3,5,10],
  [1,2,3,6,9],
  [1,2,3,6,12],
  [1,2,4,8,16],
  [1,2,3,5,7,14],
  [1,2,3,5,10,11],
  [1,2,3,5,10,13],
  [1,2,3,5,10,15],
  [1,2,3,5,10,20],
  [1,2,3,6,9,18],
  [1,2,3,6,12,24],
  [1,2,4,8,16,17],
  [1,2,4,8,16,32],
  [1,2,3,5,7,14,19],
  [1,2,3,5,7,14,21],
  [1,2,3,5,7,14,28],
  [1,2,3,5,10,11,22],
  [1,2,3,5,10,13,23],
  [1,2,3,5,10,13,26],
  [1,2,3,5,10,15,25],
  [1,2,3,5,10,15,30],
  [1,2,3,5,10,20,40],
  [1,2,3,6,9,18,27],
  [1,2,3,6,9,18,36],
  [1,2,3,6,12,24,48],
  [1,2,4,8,16,17,33],
  [1,2,4,8,16,17,34],
  [1,2,4,8,16,32,64],
  [1,2,3,5,7,14,19,38],
  [1,2,3,5,7,14,21,35],
  [1,2,3,5,7,14,21,42],
  [1,2,3,5,7,14,28,29],
  [1,2,3,5,7,14,28,31],
  [1,2,3,5,7,14,28,56],
  [1,2,3,5,10,11,22,44],
  [1,2,3,5,10,13,23,46],
  [1,2,3,5,10,13,26,39],
  [1,2,3,5,10,13,26,52],
  [1,2,3,5,10,15,25,50],
  [1,2,3,5,10,15,30,45],
  [1,2,3,5,10,15,30,60],
  [1,2,3,5,10,20,40,41],
  [1,2,3,5,10,20,40,43],
  [1,2,3,5,10,20,40,80],
  [1,2,3,6,9,18,27,54],
  [1,2,3,6,9,18,36,37],
  [1,2,3,6,9,18,36,72],
  [1,2,3,6,12,24,48,49],
  [1,2,3,6,12,24,48,51],
  [1,2,3,6,12,24,48,96],
  [1,2,4,8,16,17,33,66],
  [1,2,4,8,16,17,34,68],
  [1,2,4,8,16,32,64,65],
  [1,2,4,8,16,32,64,128],
  [1,2,3,5,7,14,19,38,57],
  [1,2,3,5,7,14,19,38,76],
  [1,2,3,5,7,14,21,35,70],
  [1,2,3,5,7,14,21,42,47],
  [1,2,3,5,7,14,21,42,63],
  [1,2,3,5,7,14,21,42,84],
  [1,2,3,5,7,14,28,29,58],
  [1,2,3,5,7,14,28,31,59],
  [1,2,3,5,7,14,28,31,62],
  [1,2,3,5,7,14,28,56,61],
  [1,2,3,5,7,14,28,56,112],
  [1,2,3,5,10,11,22,44,55],
  [1,2,3,5,10,11,22,44,88],
  [1,2,3,5,10,13,23,46,69],
  [1,2,3,5,10,13,23,46,92],
  [1,2,3,5,10,13,26,39,78],
  [1,2,3,5,10,13,26,52,53],
  [1,2,3,5,10,13,26,52,104],
  [1,2,3,5,10,15,25,50,75],
  [1,2,3,5,10,15,25,50,100],
  [1,2,3,5,10,15,30,45,90],
  [1,2,3,5,10,15,30,60,120],
  [1,2,3,5,10,20,40,41,81],
  [1,2,3,5,10,20,40,41,82],
  [1,2,3,5,10,20,40,43,83],
  [1,2,3,5,10,20,40,43,86],
  [1,2,3,5,10,20,40,80,85],
  [1,2,3,5,10,20,40,80,160],
  [1,2,3,6,9,18,27,54,108],
  [1,2,3,6,9,18,36,37,73],
  [1,2,3,6,9,18,36,37,74],
  [1,2,3,6,9,18,36,72,144],
  [1,2,3,6,12,24,48,49,97],
  [1,2,3,6,12,24,48,49,98],
  [1,2,3,6,12,24,48,51,99],
  [1,2,3,6,12,24,48,51,102],
  [1,2,3,6,12,24,48,96,192],
  [1,2,4,8,16,17,33,66,67],
  [1,2,4,8,16,17,33,66,132],
  [1,2,4,8,16,17,34,68,136],
  [1,2,4,8,16,32,64,65,129],
  [1,2,4,8,16,32,64,65,130],
  [1,2,4,8,16,32,64,128,256],
  [1,2,3,5,7,14,19,38,57,71],
  [1,2,3,5,7,14,19,38,57,95],
  [1,2,3,5,7,14,19,38,57,114],
  [1,2,3,5,7,14,19,38,76,77],
  [1,2,3,5,7,14,19,38,76,79],
  [1,2,3,5,7,14,19,38,76,152],
  [1,2,3,5,7,14,21,35,70,91],
  [1,2,3,5,7,14,21,35,70,105],
  [1,2,3,5,7,14,21,35,70,140],
  [1,2,3,5,7,14,21,42,47,89],
  [1,2,3,5,7,14,21,42,47,94],
  [1,2,3,5,7,14,21,42,63,126],
  [1,2,3,5,7,14,21,42,84,87],
  [1,2,3,5,7,14,21,42,84,168],
  [1,2,3,5,7,14,28,29,58,116],
  [1,2,3,5,7,14,28,31,59,118]]
theorem tS5 : stepsC 25 45 tL4 = some tL5 := by decide +kernel
def tL6 : List (List Nat) := [[1],
  [1,2],
  [1,2,3],
  [1,2,4],
  [1,2,3,5],
  [1,2,3,6],
  [1,2,4,8],
  [1,2,3,5,7],
  [1,2,3,5,10],
  [1,2,3,6,9],
  [1,2,3,6,12],
  [1,2,4,8,16],
  [1,2,3,5,7,14],
  [1,2,3,5,10,11],
  [1,2,3,5,10,13],
  [1,2,3,5,10,15],
  [1,2,3,5,10,20],
  [1,2,3,6,9,18],
  [1,2,3,6,12,24],
  [1,2,4,8,16,17],
  [1,2,4,8,16,32],
  [1,2,3,5,7,14,19],
  [1,2,3,5,7,14,21],
  [1,2,3,5,7,14,28],
  [1,2,3,5,10,11,22],
  [1,2,3,5,10,13,23],
  [1,2,3,5,10,13,26],
  [1,2,3,5,10,15,25],
  [1,2,3,5,10,15,30],
  [1,2,3,5,10,20,40],
  [1,2,3,6,9,18,27],
  [1,2,3,6,9,18,36],
  [1,2,3,6,12,24,48],
  [1,2,4,8,16,17,33],
  [1,2,4,8,16,17,34],
  [1,2,4,8,16,32,64],
  [1,2,3,5,7,14,19,38],
  [1,2,3,5,7,14,21,35],
  [1,2,3,5,7,14,21,42],
  [1,2,3,5,7,14,28,29],
  [1,2,3,5,7,14,28,31],
  [1,2,3,5,7,14,28,56],
  [1,2,3,5,10,11,22,44],
  [1,2,3,5,10,13,23,46],
  [1,2,3,5,10,13,26,39],
  [1,2,3,5,10,13,26,52],
  [1,2,3,5,10,15,25,50],
  [1,2,3,5,10,15,30,45],
  [1,2,3,5,10,15,30,60],
  [1,2,3,5,10,20,40,41],
  [1,2,3,5,10,20,40,43],
  [1,2,3,5,10,20,40,80],
  [1,2,3,6,9,18,27,54],
  [1,2,3,6,9,18,36,37],
  [1,2,3,6,9,18,36,72],
  [1,2,3,6,12,24,48,49],
  [1,2,3,6,12,24,48,51],
  [1,2,3,6,12,24,48,96],
  [1,2,4,8,16,17,33,66],
  [1,2,4,8,16,17,34,68],
  [1,2,4,8,16,32,64,65],
  [1,2,4,8,16,32,64,128],
  [1,2,3,5,7,14,19,38,57],
  [1,2,3,5,7,14,19,38,76],
  [1,2,3,5,7,14,21,35,70],
  [1,2,3,5,7,14,21,42,47],
  [1,2,3,5,7,14,21,42,63],
  [1,2,3,5,7,14,21,42,84],
  [1,2,3,5,7,14,28,29,58],
  [1,2,3,5,7,14,28,31,59],
  [1,2,3,5,7,14,28,31,62],
  [1,2,3,5,7,14,28,56,61],
  [1,2,3,5,7,14,28,56,112],
  [1,2,3,5,10,11,22,44,55],
  [1,2,3,5,10,11,22,44,88],
  [1,2,3,5,10,13,23,46,69],
  [1,2,3,5,10,13,23,46,92],
  [1,2,3,5,10,13,26,39,78],
  [1,2,3,5,10,13,26,52,53],
  [1,2,3,5,10,13,26,52,104],
  [1,2,3,5,10,15,25,50,75],
  [1,2,3,5,10,15,25,50,100],
  [1,2,3,5,10,15,30,45,90],
  [1,2,3,5,10,15,30,60,120],
  [1,2,3,5,10,20,40,41,81],
  [1,2,3,5,10,20,40,41,82],
  [1,2,3,5,10,20,40,43,83],
  [1,2,3,5,10,20,40,43,86],
  [1,2,3,5,10,20,40,80,85],
  [1,2,3,5,10,20,40,80,160],
  [1,2,3,6,9,18,27,54,108],
  [1,2,3,6,9,18,36,37,73],
  [1,2,3,6,9,18,36,37,74],
  [1,2,3,6,9,18,36,72,144],
  [1,2,3,6,12,24,48,49,97],
  [1,2,3,6,12,24,48,49,98],
  [1,2,3,6,12,24,48,51,99],
  [1,2,3,6,12,24,48,51,102],
  [1,2,3,6,12,24,48,96,192],
  [1,2,4,8,16,17,33,66,67],
  [1,2,4,8,16,17,33,66,132],
  [1,2,4,8,16,17,34,68,136],
  [1,2,4,8,16,32,64,65,129],
  [1,2,4,8,16,32,64,65,130],
  [1,2,4,8,16,32,64,128,256],
  [1,2,3,5,7,14,19,38,57,71],
  [1,2,3,5,7,14,19,38,57,95],
  [1,2,3,5,7,14,19,38,57,114],
  [1,2,3,5,7,14,19,38,76,77],
  [1,2,3,5,7,14,19,38,76,79],
  [1,2,3,5,7,14,19,38,76,152],
  [1,2,3,5,7,14,21,35,70,91],
  [1,2,3,5,7,14,21,35,70,105],
  [1,2,3,5,7,14,21,35,70,140],
  [1,2,3,5,7,14,21,42,47,89],
  [1,2,3,5,7,14,21,42,47,94],
  [1,2,3,5,7,14,21,42,63,126],
  [1,2,3,5,7,14,21,42,84,87],
  [1,2,3,5,7,14,21,42,84,168],
  [1,2,3,5,7,14,28,29,58,116],
  [1,2,3,5,7,14,28,31,59,118],
  [1,2,3,5,7,14,28,31,62,93],
  [1,2,3,5,7,14,28,31,62,124],
  [1,2,3,5,7,14,28,56,61,117],
  [1,2,3,5,7,14,28,56,61,122],
  [1,2,3,5,7,14,28,56,112,113],
  [1,2,3,5,7,14,28,56,112,115],
  [1,2,3,5,7,14,28,56,112,119],
  [1,2,3,5,7,14,28,56,112,224],
  [1,2,3,5,10,11,22,44,55,110],
  [1,2,3,5,10,11,22,44,88,176],
  [1,2,3,5,10,13,23,46,69,138],
  [1,2,3,5,10,13,23,46,92,184],
  [1,2,3,5,10,13,26,39,78,156],
  [1,2,3,5,10,13,26,52,53,106],
  [1,2,3,5,10,13,26,52,104,107],
  [1,2,3,5,10,13,26,52,104,109],
  [1,2,3,5,10,13,26,52,104,208],
  [1,2,3,5,10,15,25,50,75,125],
  [1,2,3,5,10,15,25,50,75,150],
  [1,2,3,5,10,15,25,50,100,101],
  [1,2,3,5,10,15,25,50,100,103],
  [1,2,3,5,10,15,25,50,100,200],
  [1,2,3,5,10,15,30,45,90,135],
  [1,2,3,5,10,15,30,45,90,180],
  [1,2,3,5,10,15,30,60,120,121],
  [1,2,3,5,10,15,30,60,120,123],
  [1,2,3,5,10,15,30,60,120,240],
  [1,2,3,5,10,20,40,41,81,162],
  [1,2,3,5,10,20,40,41,82,164],
  [1,2,3,5,10,20,40,43,83,166],
  [1,2,3,5,10,20,40,43,86,172],
  [1,2,3,5,10,20,40,80,85,165],
  [1,2,3,5,10,20,40,80,85,170],
  [1,2,3,5,10,20,40,80,160,161],
  [1,2,3,5,10,20,40,80,160,163],
  [1,2,3,5,10,20,40,80,160,320],
  [1,2,3,6,9,18,27,54,108,111],
  [1,2,3,6,9,18,27,54,108,216],
  [1,2,3,6,9,18,36,37,73,146],
  [1,2,3,6,9,18,36,37,74,148],
  [1,2,3,6,9,18,36,72,144,145],
  [1,2,3,6,9,18,36,72,144,147],
  [1,2,3,6,9,18,36,72,144,153],
  [1,2,3,6,9,18,36,72,144,288],
  [1,2,3,6,12,24,48,49,97,194],
  [1,2,3,6,12,24,48,49,98,196],
  [1,2,3,6,12,24,48,51,99,198],
  [1,2,3,6,12,24,48,51,102,204],
  [1,2,3,6,12,24,48,96,192,193],
  [1,2,3,6,12,24,48,96,192,195],
  [1,2,3,6,12,24,48,96,192,384],
  [1,2,4,8,16,17,33,66,67,133],
  [1,2,4,8,16,17,33,66,67,134]]
theorem tS6 : stepsC 30 70 tL5 = some tL6 := by decide +kernel
def tL7 : List (List Nat) := [[1],
  [1,2],
  [1,2,3],
  [1,2,4],
  [1,2,3,5],
  [1,2,3,6],
  [1,2,4,8],
  [1,2,3,5,7],
  [1,2,3,5,10],
  [1,2,3,6,9],
  [1,2,3,6,12],
  [1,2,4,8,16],
  [1,2,3,5,7,14],
  [1,2,3,5,10,11],
  [1,2,3,5,10,13],
  [1,2,3,5,10,15],
  [1,2,3,5,10,20],
  [1,2,3,6,9,18],
  [1,2,3,6,12,24],
  [1,2,4,8,16,17],
  [1,2,4,8,16,32],
  [1,2,3,5,7,14,19],
  [1,2,3,5,7,14,21],
  [1,2,3,5,7,14,28],
  [1,2,3,5,10,11,22],
  [1,2,3,5,10,13,23],
  [1,2,3,5,10,13,26],
  [1,2,3,5,10,15,25],
  [1,2,3,5,10,15,30],
  [1,2,3,5,10,20,40],
  [1,2,3,6,9,18,27],
  [1,2,3,6,9,18,36],
  [1,2,3,6,12,24,48],
  [1,2,4,8,16,17,33],
  [1,2,4,8,16,17,34],
  [1,2,4,8,16,32,64],
  [1,2,3,5,7,14,19,38],
  [1,2,3,5,7,14,21,35],
  [1,2,3,5,7,14,21,42],
  [1,2,3,5,7,14,28,29],
  [1,2,3,5,7,14,28,31],
  [1,2,3,5,7,14,28,56],
  [1,2,3,5,10,11,22,44],
  [1,2,3,5,10,13,23,46],
  [1,2,3,5,10,13,26,39],
  [1,2,3,5,10,13,26,52],
  [1,2,3,5,10,15,25,50],
  [1,2,3,5,10,15,30,45],
  [1,2,3,5,10,15,30,60],
  [1,2,3,5,10,20,40,41],
  [1,2,3,5,10,20,40,43],
  [1,2,3,5,10,20,40,80],
  [1,2,3,6,9,18,27,54],
  [1,2,3,6,9,18,36,37],
  [1,2,3,6,9,18,36,72],
  [1,2,3,6,12,24,48,49],
  [1,2,3,6,12,24,48,51],
  [1,2,3,6,12,24,48,96],
  [1,2,4,8,16,17,33,66],
  [1,2,4,8,16,17,34,68],
  [1,2,4,8,16,32,64,65],
  [1,2,4,8,16,32,64,128],
  [1,2,3,5,7,14,19,38,57],
  [1,2,3,5,7,14,19,38,76],
  [1,2,3,5,7,14,21,35,70],
  [1,2,3,5,7,14,21,42,47],
  [1,2,3,5,7,14,21,42,63],
  [1,2,3,5,7,14,21,42,84],
  [1,2,3,5,7,14,28,29,58],
  [1,2,3,5,7,14,28,31,59],
  [1,2,3,5,7,14,28,31,62],
  [1,2,3,5,7,14,28,56,61],
  [1,2,3,5,7,14,28,56,112],
  [1,2,3,5,10,11,22,44,55],
  [1,2,3,5,10,11,22,44,88],
  [1,2,3,5,10,13,23,46,69],
  [1,2,3,5,10,13,23,46,92],
  [1,2,3,5,10,13,26,39,78],
  [1,2,3,5,10,13,26,52,53],
  [1,2,3,5,10,13,26,52,104],
  [1,2,3,5,10,15,25,50,75],
  [1,2,3,5,10,15,25,50,100],
  [1,2,3,5,10,15,30,45,90],
  [1,2,3,5,10,15,30,60,120],
  [1,2,3,5,10,20,40,41,81],
  [1,2,3,5,10,20,40,41,82],
  [1,2,3,5,10,20,40,43,83],
  [1,2,3,5,10,20,40,43,86],
  [1,2,3,5,10,20,40,80,85],
  [1,2,3,5,10,20,40,80,160],
  [1,2,3,6,9,18,27,54,108],
  [1,2,3,6,9,18,36,37,73],
  [1,2,3,6,9,18,36,37,74],
  [1,2,3,6,9,18,36,72,144],
  [1,2,3,6,12,24,48,49,97],
  [1,2,3,6,12,24,48,49,98],
  [1,2,3,6,12,24,48,51,99],
  [1,2,3,6,12,24,48,51,102],
  [1,2,3,6,12,24,48,96,192],
  [1,2,4,8,16,17,33,66,67],
  [1,2,4,8,16,17,33,66,132],
  [1,2,4,8,16,17,34,68,136],
  [1,2,4,8,16,32,64,65,129],
  [1,2,4,8,16,32,64,65,130],
  [1,2,4,8,16,32,64,128,256],
  [1,2,3,5,7,14,19,38,57,71],
  [1,2,3,5,7,14,19,38,57,95],
  [1,2,3,5,7,14,19,38,57,114],
  [1,2,3,5,7,14,19,38,76,77],
  [1,2,3,5,7,14,19,38,76,79],
  [1,2,3,5,7,14,19,38,76,152],
  [1,2,3,5,7,14,21,35,70,91],
  [1,2,3,5,7,14,21,35,70,105],
  [1,2,3,5,7,14,21,35,70,140],
  [1,2,3,5,7,14,21,42,47,89],
  [1,2,3,5,7,14,21,42,47,94],
  [1,2,3,5,7,14,21,42,63,126],
  [1,2,3,5,7,14,21,42,84,87],
  [1,2,3,5,7,14,21,42,84,168],
  [1,2,3,5,7,14,28,29,58,116],
  [1,2,3,5,7,14,28,31,59,118],
  [1,2,3,5,7,14,28,31,62,93],
  [1,2,3,5,7,14,28,31,62,124],
  [1,2,3,5,7,14,28,56,61,117],
  [1,2,3,5,7,14,28,56,61,122],
  [1,2,3,5,7,14,28,56,112,113],
  [1,2,3,5,7,14,28,56,112,115],
  [1,2,3,5,7,14,28,56,112,119],
  [1,2,3,5,7,14,28,56,112,224],
  [1,2,3,5,10,11,22,44,55,110],
  [1,2,3,5,10,11,22,44,88,176],
  [1,2,3,5,10,13,23,46,69,138],
  [1,2,3,5,10,13,23,46,92,184],
  [1,2,3,5,10,13,26,39,78,156],
  [1,2,3,5,10,13,26,52,53,106],
  [1,2,3,5,10,13,26,52,104,107],
  [1,2,3,5,10,13,26,52,104,109],
  [1,2,3,5,10,13,26,52,104,208],
  [1,2,3,5,10,15,25,50,75,125],
  [1,2,3,5,10,15,25,50,75,150],
  [1,2,3,5,10,15,25,50,100,101],
  [1,2,3,5,10,15,25,50,100,103],
  [1,2,3,5,10,15,25,50,100,200],
  [1,2,3,5,10,15,30,45,90,135],
  [1,2,3,5,10,15,30,45,90,180],
  [1,2,3,5,10,15,30,60,120,121],
  [1,2,3,5,10,15,30,60,120,123],
  [1,2,3,5,10,15,30,60,120,240],
  [1,2,3,5,10,20,40,41,81,162],
  [1,2,3,5,10,20,40,41,82,164],
  [1,2,3,5,10,20,40,43,83,166],
  [1,2,3,5,10,20,40,43,86,172],
  [1,2,3,5,10,20,40,80,85,165],
  [1,2,3,5,10,20,40,80,85,170],
  [1,2,3,5,10,20,40,80,160,161],
  [1,2,3,5,10,20,40,80,160,163],
  [1,2,3,5,10,20,40,80,160,320],
  [1,2,3,6,9,18,27,54,108,111],
  [1,2,3,6,9,18,27,54,108,216],
  [1,2,3,6,9,18,36,37,73,146],
  [1,2,3,6,9,18,36,37,74,148],
  [1,2,3,6,9,18,36,72,144,145],
  [1,2,3,6,9,18,36,72,144,147],
  [1,2,3,6,9,18,36,72,144,153],
  [1,2,3,6,9,18,36,72,144,288],
  [1,2,3,6,12,24,48,49,97,194],
  [1,2,3,6,12,24,48,49,98,196],
  [1,2,3,6,12,24,48,51,99,198],
  [1,2,3,6,12,24,48,51,102,204],
  [1,2,3,6,12,24,48,96,192,193],
  [1,2,3,6,12,24,48,96,192,195],
  [1,2,3,6,12,24,48,96,192,384],
  [1,2,4,8,16,17,33,66,67,133],
  [1,2,4,8,16,17,33,66,67,134],
  [1,2,4,8,16,17,33,66,132,149],
  [1,2,4,8,16,17,33,66,132,264],
  [1,2,4,8,16,17,34,68,136,137],
  [1,2,4,8,16,17,34,68,136,272],
  [1,2,4,8,16,32,64,65,129,131],
  [1,2,4,8,16,32,64,65,129,258],
  [1,2,4,8,16,32,64,65,130,260],
  [1,2,4,8,16,32,64,128,256,257],
  [1,2,3,5,7,14,19,38,57,71,142],
  [1,2,3,5,7,14,19,38,57,95,190],
  [1,2,3,5,7,14,19,38,57,114,171],
  [1,2,3,5,7,14,19,38,57,114,228],
  [1,2,3,5,7,14,19,38,76,77,154],
  [1,2,3,5,7,14,19,38,76,79,155],
  [1,2,3,5,7,14,19,38,76,79,158],
  [1,2,3,5,7,14,19,38,76,152,157],
  [1,2,3,5,7,14,19,38,76,152,159],
  [1,2,3,5,7,14,19,38,76,152,304],
  [1,2,3,5,7,14,21,35,70,91,182],
  [1,2,3,5,7,14,21,35,70,105,175],
  [1,2,3,5,7,14,21,35,70,105,210],
  [1,2,3,5,7,14,21,35,70,140,141],
  [1,2,3,5,7,14,21,35,70,140,143],
  [1,2,3,5,7,14,21,35,70,140,280],
  [1,2,3,5,7,14,21,42,47,89,178],
  [1,2,3,5,7,14,21,42,47,94,188],
  [1,2,3,5,7,14,21,42,63,126,127],
  [1,2,3,5,7,14,21,42,63,126,189],
  [1,2,3,5,7,14,21,42,63,126,252],
  [1,2,3,5,7,14,21,42,84,87,174],
  [1,2,3,5,7,14,21,42,84,168,169],
  [1,2,3,5,7,14,21,42,84,168,173],
  [1,2,3,5,7,14,21,42,84,168,336],
  [1,2,3,5,7,14,28,29,58,116,232],
  [1,2,3,5,7,14,28,31,59,118,177],
  [1,2,3,5,7,14,28,31,59,118,236],
  [1,2,3,5,7,14,28,31,62,93,186],
  [1,2,3,5,7,14,28,31,62,124,248],
  [1,2,3,5,7,14,28,56,61,117,234],
  [1,2,3,5,7,14,28,56,61,122,183],
  [1,2,3,5,7,14,28,56,61,122,244],
  [1,2,3,5,7,14,28,56,112,113,225],
  [1,2,3,5,7,14,28,56,112,113,226],
  [1,2,3,5,7,14,28,56,112,115,227],
  [1,2,3,5,7,14,28,56,112,115,230],
  [1,2,3,5,7,14,28,56,112,119,231],
  [1,2,3,5,7,14,28,56,112,119,238],
  [1,2,3,5,7,14,28,56,112,224,229],
  [1,2,3,5,10,11,22,44,55,110,220]]
theorem tS7 : stepsC 30 100 tL6 = some tL7 := by decide +kernel
def tL8 : List (List Nat) := [[1],
  [1,2],
  [1,2,3],
  [1,2,4],
  [1,2,3,5],
  [1,2,3,6],
  [1,2,4,8],
  [1,2,3,5,7],
  [1,2,3,5,10],
  [1,2,3,6,9],
  [1,2,3,6,12],
  [1,2,4,8,16],
  [1,2,3,5,7,14],
  [1,2,3,5,10,11],
  [1,2,3,5,10,13],
  [1,2,3,5,10,15],
  [1,2,3,5,10,20],
  [1,2,3,6,9,18],
  [1,2,3,6,12,24],
  [1,2,4,8,16,17],
  [1,2,4,8,16,32],
  [1,2,3,5,7,14,19],
  [1,2,3,5,7,14,21],
  [1,2,3,5,7,14,28],
  [1,2,3,5,10,11,22],
  [1,2,3,5,10,13,23],
  [1,2,3,5,10,13,26],
  [1,2,3,5,10,15,25],
  [1,2,3,5,10,15,30],
  [1,2,3,5,10,20,40],
  [1,2,3,6,9,18,27],
  [1,2,3,6,9,18,36],
  [1,2,3,6,12,24,48],
  [1,2,4,8,16,17,33],
  [1,2,4,8,16,17,34],
  [1,2,4,8,16,32,64],
  [1,2,3,5,7,14,19,38],
  [1,2,3,5,7,14,21,35],
  [1,2,3,5,7,14,21,42],
  [1,2,3,5,7,14,28,29],
  [1,2,3,5,7,14,28,31],
  [1,2,3,5,7,14,28,56],
  [1,2,3,5,10,11,22,44],
  [1,2,3,5,10,13,23,46],
  [1,2,3,5,10,13,26,39],
  [1,2,3,5,10,13,26,52],
  [1,2,3,5,10,15,25,50],
  [1,2,3,5,10,15,30,45],
  [1,2,3,5,10,15,30,60],
  [1,2,3,5,10,20,40,41],
  [1,2,3,5,10,20,40,43],
  [1,2,3,5,10,20,40,80],
  [1,2,3,6,9,18,27,54],
  [1,2,3,6,9,18,36,37],
  [1,2,3,6,9,18,36,72],
  [1,2,3,6,12,24,48,49],
  [1,2,3,6,12,24,48,51],
  [1,2,3,6,12,24,48,96],
  [1,2,4,8,16,17,33,66],
  [1,2,4,8,16,17,34,68],
  [1,2,4,8,16,32,64,65],
  [1,2,4,8,16,32,64,128],
  [1,2,3,5,7,14,19,38,57],
  [1,2,3,5,7,14,19,38,76],
  [1,2,3,5,7,14,21,35,70],
  [1,2,3,5,7,14,21,42,47],
  [1,2,3,5,7,14,21,42,63],
  [1,2,3,5,7,14,21,42,84],
  [1,2,3,5,7,14,28,29,58],
  [1,2,3,5,7,14,28,31,59],
  [1,2,3,5,7,14,28,31,62],
  [1,2,3,5,7,14,28,56,61],
  [1,2,3,5,7,14,28,56,112],
  [1,2,3,5,10,11,22,44,55],
  [1,2,3,5,10,11,22,44,88],
  [1,2,3,5,10,13,23,46,69],
  [1,2,3,5,10,13,23,46,92],
  [1,2,3,5,10,13,26,39,78],
  [1,2,3,5,10,13,26,52,53],
  [1,2,3,5,10,13,26,52,104],
  [1,2,3,5,10,15,25,50,75],
  [1,2,3,5,10,15,25,50,100],
  [1,2,3,5,10,15,30,45,90],
  [1,2,3,5,10,15,30,60,120],
  [1,2,3,5,10,20,40,41,81],
  [1,2,3,5,10,20,40,41,82],
  [1,2,3,5,10,20,40,43,83],
  [1,2,3,5,10,20,40,43,86],
  [1,2,3,5,10,20,40,80,85],
  [1,2,3,5,10,20,40,80,160],
  [1,2,3,6,9,18,27,54,108],
  [1,2,3,6,9,18,36,37,73],
  [1,2,3,6,9,18,36,37,74],
  [1,2,3,6,9,18,36,72,144],
  [1,2,3,6,12,24,48,49,97],
  [1,2,3,6,12,24,48,49,98],
  [1,2,3,6,12,24,48,51,99],
  [1,2,3,6,12,24,48,51,102],
  [1,2,3,6,12,24,48,96,192],
  [1,2,4,8,16,17,33,66,67],
  [1,2,4,8,16,17,33,66,132],
  [1,2,4,8,16,17,34,68,136],
  [1,2,4,8,16,32,64,65,129],
  [1,2,4,8,16,32,64,65,130],
  [1,2,4,8,16,32,64,128,256],
  [1,2,3,5,7,14,19,38,57,71],
  [1,2,3,5,7,14,19,38,57,95],
  [1,2,3,5,7,14,19,38,57,114],
  [1,2,3,5,7,14,19,38,76,77],
  [1,2,3,5,7,14,19,38,76,79],
  [1,2,3,5,7,14,19,38,76,152],
  [1,2,3,5,7,14,21,35,70,91],
  [1,2,3,5,7,14,21,35,70,105],
  [1,2,3,5,7,14,21,35,70,140],
  [1,2,3,5,7,14,21,42,47,89],
  [1,2,3,5,7,14,21,42,47,94],
  [1,2,3,5,7,14,21,42,63,126],
  [1,2,3,5,7,14,21,42,84,87],
  [1,2,3,5,7,14,21,42,84,168],
  [1,2,3,5,7,14,28,29,58,116],
  [1,2,3,5,7,14,28,31,59,118],
  [1,2,3,5,7,14,28,31,62,93],
  [1,2,3,5,7,14,28,31,62,124],
  [1,2,3,5,7,14,28,56,61,117],
  [1,2,3,5,7,14,28,56,61,122],
  [1,2,3,5,7,14,28,56,112,113],
  [1,2,3,5,7,14,28,56,112,115],
  [1,2,3,5,7,14,28,56,112,119],
  [1,2,3,5,7,14,28,56,112,224],
  [1,2,3,5,10,11,22,44,55,110],
  [1,2,3,5,10,11,22,44,88,176],
  [1,2,3,5,10,13,23,46,69,138],
  [1,2,3,5,10,13,23,46,92,184],
  [1,2,3,5,10,13,26,39,78,156],
  [1,2,3,5,10,13,26,52,53,106],
  [1,2,3,5,10,13,26,52,104,107],
  [1,2,3,5,10,13,26,52,104,109],
  [1,2,3,5,10,13,26,52,104,208],
  [1,2,3,5,10,15,25,50,75,125],
  [1,2,3,5,10,15,25,50,75,150],
  [1,2,3,5,10,15,25,50,100,101],
  [1,2,3,5,10,15,25,50,100,103],
  [1,2,3,5,10,15,25,50,100,200],
  [1,2,3,5,10,15,30,45,90,135],
  [1,2,3,5,10,15,30,45,90,180],
  [1,2,3,5,10,15,30,60,120,121],
  [1,2,3,5,10,15,30,60,120,123],
  [1,2,3,5,10,15,30,60,120,240],
  [1,2,3,5,10,20,40,41,81,162],
  [1,2,3,5,10,20,40,41,82,164],
  [1,2,3,5,10,20,40,43,83,166],
  [1,2,3,5,10,20,40,43,86,172],
  [1,2,3,5,10,20,40,80,85,165],
  [1,2,3,5,10,20,40,80,85,170],
  [1,2,3,5,10,20,40,80,160,161],
  [1,2,3,5,10,20,40,80,160,163],
  [1,2,3,5,10,20,40,80,160,320],
  [1,2,3,6,9,18,27,54,108,111],
  [1,2,3,6,9,18,27,54,108,216],
  [1,2,3,6,9,18,36,37,73,146],
  [1,2,3,6,9,18,36,37,74,148],
  [1,2,3,6,9,18,36,72,144,145],
  [1,2,3,6,9,18,36,72,144,147],
  [1,2,3,6,9,18,36,72,144,153],
  [1,2,3,6,9,18,36,72,144,288],
  [1,2,3,6,12,24,48,49,97,194],
  [1,2,3,6,12,24,48,49,98,196],
  [1,2,3,6,12,24,48,51,99,198],
  [1,2,3,6,12,24,48,51,102,204],
  [1,2,3,6,12,24,48,96,192,193],
  [1,2,3,6,12,24,48,96,192,195],
  [1,2,3,6,12,24,48,96,192,384],
  [1,2,4,8,16,17,33,66,67,133],
  [1,2,4,8,16,17,33,66,67,134],
  [1,2,4,8,16,17,33,66,132,149],
  [1,2,4,8,16,17,33,66,132,264],
  [1,2,4,8,16,17,34,68,136,137],
  [1,2,4,8,16,17,34,68,136,272],
  [1,2,4,8,16,32,64,65,129,131],
  [1,2,4,8,16,32,64,65,129,258],
  [1,2,4,8,16,32,64,65,130,260],
  [1,2,4,8,16,32,64,128,256,257],
  [1,2,3,5,7,14,19,38,57,71,142],
  [1,2,3,5,7,14,19,38,57,95,190],
  [1,2,3,5,7,14,19,38,57,114,171],
  [1,2,3,5,7,14,19,38,57,114,228],
  [1,2,3,5,7,14,19,38,76,77,154],
  [1,2,3,5,7,14,19,38,76,79,155],
  [1,2,3,5,7,14,19,38,76,79,158],
  [1,2,3,5,7,14,19,38,76,152,157],
  [1,2,3,5,7,14,19,38,76,152,159],
  [1,2,3,5,7,14,19,38,76,152,304],
  [1,2,3,5,7,14,21,35,70,91,182],
  [1,2,3,5,7,14,21,35,70,105,175],
  [1,2,3,5,7,14,21,35,70,105,210],
  [1,2,3,5,7,14,21,35,70,140,141],
  [1,2,3,5,7,14,21,35,70,140,143],
  [1,2,3,5,7,14,21,35,70,140,280],
  [1,2,3,5,7,14,21,42,47,89,178],
  [1,2,3,5,7,14,21,42,47,94,188],
  [1,2,3,5,7,14,21,42,63,126,127],
  [1,2,3,5,7,14,21,42,63,126,189],
  [1,2,3,5,7,14,21,42,63,126,252],
  [1,2,3,5,7,14,21,42,84,87,174],
  [1,2,3,5,7,14,21,42,84,168,169],
  [1,2,3,5,7,14,21,42,84,168,173],
  [1,2,3,5,7,14,21,42,84,168,336],
  [1,2,3,5,7,14,28,29,58,116,232],
  [1,2,3,5,7,14,28,31,59,118,177],
  [1,2,3,5,7,14,28,31,59,118,236],
  [1,2,3,5,7,14,28,31,62,93,186],
  [1,2,3,5,7,14,28,31,62,124,248],
  [1,2,3,5,7,14,28,56,61,117,234],
  [1,2,3,5,7,14,28,56,61,122,183],
  [1,2,3,5,7,14,28,56,61,122,244],
  [1,2,3,5,7,14,28,56,112,113,225],
  [1,2,3,5,7,14,28,56,112,113,226],
  [1,2,3,5,7,14,28,56,112,115,227],
  [1,2,3,5,7,14,28,56,112,115,230],
  [1,2,3,5,7,14,28,56,112,119,231],
  [1,2,3,5,7,14,28,56,112,119,238],
  [1,2,3,5,7,14,28,56,112,224,229],
  [1,2,3,5,10,11,22,44,55,110,220],
  [1,2,3,5,10,11,22,44,88,176,179],
  [1,2,3,5,10,11,22,44,88,176,181],
  [1,2,3,5,10,11,22,44,88,176,187],
  [1,2,3,5,10,11,22,44,88,176,352],
  [1,2,3,5,10,13,23,46,69,138,139],
  [1,2,3,5,10,13,23,46,69,138,151],
  [1,2,3,5,10,13,23,46,69,138,207],
  [1,2,3,5,10,13,23,46,69,138,276],
  [1,2,3,5,10,13,23,46,92,184,185],
  [1,2,3,5,10,13,23,46,92,184,197],
  [1,2,3,5,10,13,23,46,92,184,368],
  [1,2,3,5,10,13,26,39,78,156,312],
  [1,2,3,5,10,13,26,52,53,106,212],
  [1,2,3,5,10,13,26,52,104,107,211],
  [1,2,3,5,10,13,26,52,104,107,214],
  [1,2,3,5,10,13,26,52,104,109,213],
  [1,2,3,5,10,13,26,52,104,109,218],
  [1,2,3,5,10,13,26,52,104,208,209],
  [1,2,3,5,10,13,26,52,104,208,221],
  [1,2,3,5,10,15,25,50,75,125,250],
  [1,2,3,5,10,15,25,50,75,150,300],
  [1,2,3,5,10,15,25,50,100,101,201],
  [1,2,3,5,10,15,25,50,100,101,202],
  [1,2,3,5,10,15,25,50,100,103,203],
  [1,2,3,5,10,15,25,50,100,103,206],
  [1,2,3,5,10,15,25,50,100,200,205],
  [1,2,3,5,10,15,25,50,100,200,215],
  [1,2,3,5,10,15,25,50,100,200,400],
  [1,2,3,5,10,15,30,45,90,135,270],
  [1,2,3,5,10,15,30,45,90,180,360],
  [1,2,3,5,10,15,30,60,120,121,241],
  [1,2,3,5,10,15,30,60,120,121,242],
  [1,2,3,5,10,15,30,60,120,123,243],
  [1,2,3,5,10,15,30,60,120,123,246],
  [1,2,3,5,10,15,30,60,120,240,245],
  [1,2,3,5,10,15,30,60,120,240,255],
  [1,2,3,5,10,20,40,41,81,162,167],
  [1,2,3,5,10,20,40,41,81,162,324],
  [1,2,3,5,10,20,40,41,82,164,328],
  [1,2,3,5,10,20,40,43,83,166,249],
  [1,2,3,5,10,20,40,43,83,166,332],
  [1,2,3,5,10,20,40,43,86,172,344],
  [1,2,3,5,10,20,40,80,85,165,330],
  [1,2,3,5,10,20,40,80,85,170,340],
  [1,2,3,5,10,20,40,80,160,161,321],
  [1,2,3,5,10,20,40,80,160,161,322],
  [1,2,3,5,10,20,40,80,160,163,323],
  [1,2,3,5,10,20,40,80,160,163,326],
  [1,2,3,5,10,20,40,80,160,320,325],
  [1,2,3,6,9,18,27,54,108,111,219],
  [1,2,3,6,9,18,27,54,108,111,222],
  [1,2,3,6,9,18,27,54,108,216,217],
  [1,2,3,6,9,18,36,37,73,146,292]]
theorem tS8 : stepsC 30 130 tL7 = some tL8 := by decide +kernel
def tL9 : List (List Nat) := [[1],
  [1,2],
  [1,2,3],
  [1,2,4],
  [1,2,3,5],
  [1,2,3,6],
  [1,2,4,8],
  [1,2,3,5,7],
  [1,2,3,5,10],
  [1,2,3,6,9],
  [1,2,3,6,12],
  [1,2,4,8,16],
  [1,2,3,5,7,14],
  [1,2,3,5,10,11],
  [1,2,3,5,10,13],
  [1,2,3,5,10,15],
  [1,2,3,5,10,20],
  [1,2,3,6,9,18],
  [1,2,3,6,12,24],
  [1,2,4,8,16,17],
  [1,2,4,8,16,32],
  [1,2,3,5,7,14,19],
  [1,2,3,5,7,14,21],
  [1,2,3,5,7,14,28],
  [1,2,3,5,10,11,22],
  [1,2,3,5,10,13,23],
  [1,2,3,5,10,13,26],
  [1,2,3,5,10,15,25],
  [1,2,3,5,10,15,30],
  [1,2,3,5,10,20,40],
  [1,2,3,6,9,18,27],
  [1,2,3,6,9,18,36],
  [1,2,3,6,12,24,48],
  [1,2,4,8,16,17,33],
  [1,2,4,8,16,17,34],
  [1,2,4,8,16,32,64],
  [1,2,3,5,7,14,19,38],
  [1,2,3,5,7,14,21,35],
  [1,2,3,5,7,14,21,42],
  [1,2,3,5,7,14,28,29],
  [1,2,3,5,7,14,28,31],
  [1,2,3,5,7,14,28,56],
  [1,2,3,5,10,11,22,44],
  [1,2,3,5,10,13,23,46],
  [1,2,3,5,10,13,26,39],
  [1,2,3,5,10,13,26,52],
  [1,2,3,5,10,15,25,50],
  [1,2,3,5,10,15,30,45],
  [1,2,3,5,10,15,30,60],
  [1,2,3,5,10,20,40,41],
  [1,2,3,5,10,20,40,43],
  [1,2,3,5,10,20,40,80],
  [1,2,3,6,9,18,27,54],
  [1,2,3,6,9,18,36,37],
  [1,2,3,6,9,18,36,72],
  [1,2,3,6,12,24,48,49],
  [1,2,3,6,12,24,48,51],
  [1,2,3,6,12,24,48,96],
  [1,2,4,8,16,17,33,66],
  [1,2,4,8,16,17,34,68],
  [1,2,4,8,16,32,64,65],
  [1,2,4,8,16,32,64,128],
  [1,2,3,5,7,14,19,38,57],
  [1,2,3,5,7,14,19,38,76],
  [1,2,3,5,7,14,21,35,70],
  [1,2,3,5,7,14,21,42,47],
  [1,2,3,5,7,14,21,42,63],
  [1,2,3,5,7,14,21,42,84],
  [1,2,3,5,7,14,28,29,58],
  [1,2,3,5,7,14,28,31,59],
  [1,2,3,5,7,14,28,31,62],
  [1,2,3,5,7,14,28,56,61],
  [1,2,3,5,7,14,28,56,112],
  [1,2,3,5,10,11,22,44,55],
  [1,2,3,5,10,11,22,44,88],
  [1,2,3,5,10,13,23,46,69],
  [1,2,3,5,10,13,23,46,92],
  [1,2,3,5,10,13,26,39,78],
  [1,2,3,5,10,13,26,52,53],
  [1,2,3,5,10,13,26,52,104],
  [1,2,3,5,10,15,25,50,75],
  [1,2,3,5,10,15,25,50,100],
  [1,2,3,5,10,15,30,45,90],
  [1,2,3,5,10,15,30,60,120],
  [1,2,3,5,10,20,40,41,81],
  [1,2,3,5,10,20,40,41,82],
  [1,2,3,5,10,20,40,43,83],
  [1,2,3,5,10,20,40,43,86],
  [1,2,3,5,10,20,40,80,85],
  [1,2,3,5,10,20,40,80,160],
  [1,2,3,6,9,18,27,54,108],
  [1,2,3,6,9,18,36,37,73],
  [1,2,3,6,9,18,36,37,74],
  [1,2,3,6,9,18,36,72,144],
  [1,2,3,6,12,24,48,49,97],
  [1,2,3,6,12,24,48,49,98],
  [1,2,3,6,12,24,48,51,99],
  [1,2,3,6,12,24,48,51,102],
  [1,2,3,6,12,24,48,96,192],
  [1,2,4,8,16,17,33,66,67],
  [1,2,4,8,16,17,33,66,132],
  [1,2,4,8,16,17,34,68,136],
  [1,2,4,8,16,32,64,65,129],
  [1,2,4,8,16,32,64,65,130],
  [1,2,4,8,16,32,64,128,256],
  [1,2,3,5,7,14,19,38,57,71],
  [1,2,3,5,7,14,19,38,57,95],
  [1,2,3,5,7,14,19,38,57,114],
  [1,2,3,5,7,14,19,38,76,77],
  [1,2,3,5,7,14,19,38,76,79],
  [1,2,3,5,7,14,19,38,76,152],
  [1,2,3,5,7,14,21,35,70,91],
  [1,2,3,5,7,14,21,35,70,105],
  [1,2,3,5,7,14,21,35,70,140],
  [1,2,3,5,7,14,21,42,47,89],
  [1,2,3,5,7,14,21,42,47,94],
  [1,2,3,5,7,14,21,42,63,126],
  [1,2,3,5,7,14,21,42,84,87],
  [1,2,3,5,7,14,21,42,84,168],
  [1,2,3,5,7,14,28,29,58,116],
  [1,2,3,5,7,14,28,31,59,118],
  [1,2,3,5,7,14,28,31,62,93],
  [1,2,3,5,7,14,28,31,62,124],
  [1,2,3,5,7,14,28,56,61,117],
  [1,2,3,5,7,14,28,56,61,122],
  [1,2,3,5,7,14,28,56,112,113],
  [1,2,3,5,7,14,28,56,112,115],
  [1,2,3,5,7,14,28,56,112,119],
  [1,2,3,5,7,14,28,56,112,224],
  [1,2,3,5,10,11,22,44,55,110],
  [1,2,3,5,10,11,22,44,88,176],
  [1,2,3,5,10,13,23,46,69,138],
  [1,2,3,5,10,13,23,46,92,184],
  [1,2,3,5,10,13,26,39,78,156],
  [1,2,3,5,10,13,26,52,53,106],
  [1,2,3,5,10,13,26,52,104,107],
  [1,2,3,5,10,13,26,52,104,109],
  [1,2,3,5,10,13,26,52,104,208],
  [1,2,3,5,10,15,25,50,75,125],
  [1,2,3,5,10,15,25,50,75,150],
  [1,2,3,5,10,15,25,50,100,101],
  [1,2,3,5,10,15,25,50,100,103],
  [1,2,3,5,10,15,25,50,100,200],
  [1,2,3,5,10,15,30,45,90,135],
  [1,2,3,5,10,15,30,45,90,180],
  [1,2,3,5,10,15,30,60,120,121],
  [1,2,3,5,10,15,30,60,120,123],
  [1,2,3,5,10,15,30,60,120,240],
  [1,2,3,5,10,20,40,41,81,162],
  [1,2,3,5,10,20,40,41,82,164],
  [1,2,3,5,10,20,40,43,83,166],
  [1,2,3,5,10,20,40,43,86,172],
  [1,2,3,5,10,20,40,80,85,165],
  [1,2,3,5,10,20,40,80,85,170],
  [1,2,3,5,10,20,40,80,160,161],
  [1,2,3,5,10,20,40,80,160,163],
  [1,2,3,5,10,20,40,80,160,320],
  [1,2,3,6,9,18,27,54,108,111],
  [1,2,3,6,9,18,27,54,108,216],
  [1,2,3,6,9,18,36,37,73,146],
  [1,2,3,6,9,18,36,37,74,148],
  [1,2,3,6,9,18,36,72,144,145],
  [1,2,3,6,9,18,36,72,144,147],
  [1,2,3,6,9,18,36,72,144,153],
  [1,2,3,6,9,18,36,72,144,288],
  [1,2,3,6,12,24,48,49,97,194],
  [1,2,3,6,12,24,48,49,98,196],
  [1,2,3,6,12,24,48,51,99,198],
  [1,2,3,6,12,24,48,51,102,204],
  [1,2,3,6,12,24,48,96,192,193],
  [1,2,3,6,12,24,48,96,192,195],
  [1,2,3,6,12,24,48,96,192,384],
  [1,2,4,8,16,17,33,66,67,133],
  [1,2,4,8,16,17,33,66,67,134],
  [1,2,4,8,16,17,33,66,132,149],
  [1,2,4,8,16,17,33,66,132,264],
  [1,2,4,8,16,17,34,68,136,137],
  [1,2,4,8,16,17,34,68,136,272],
  [1,2,4,8,16,32,64,65,129,131],
  [1,2,4,8,16,32,64,65,129,258],
  [1,2,4,8,16,32,64,65,130,260],
  [1,2,4,8,16,32,64,128,256,257],
  [1,2,3,5,7,14,19,38,57,71,142],
  [1,2,3,5,7,14,19,38,57,95,190],
  [1,2,3,5,7,14,19,38,57,114,171],
  [1,2,3,5,7,14,19,38,57,114,228],
  [1,2,3,5,7,14,19,38,76,77,154],
  [1,2,3,5,7,14,19,38,76,79,155],
  [1,2,3,5,7,14,19,38,76,79,158],
  [1,2,3,5,7,14,19,38,76,152,157],
  [1,2,3,5,7,14,19,38,76,152,159],
  [1,2,3,5,7,14,19,38,76,152,304],
  [1,2,3,5,7,14,21,35,70,91,182],
  [1,2,3,5,7,14,21,35,70,105,175],
  [1,2,3,5,7,14,21,35,70,105,210],
  [1,2,3,5,7,14,21,35,70,140,141],
  [1,2,3,5,7,14,21,35,70,140,143],
  [1,2,3,5,7,14,21,35,70,140,280],
  [1,2,3,5,7,14,21,42,47,89,178],
  [1,2,3,5,7,14,21,42,47,94,188],
  [1,2,3,5,7,14,21,42,63,126,127],
  [1,2,3,5,7,14,21,42,63,126,189],
  [1,2,3,5,7,14,21,42,63,126,252],
  [1,2,3,5,7,14,21,42,84,87,174],
  [1,2,3,5,7,14,21,42,84,168,169],
  [1,2,3,5,7,14,21,42,84,168,173],
  [1,2,3,5,7,14,21,42,84,168,336],
  [1,2,3,5,7,14,28,29,58,116,232],
  [1,2,3,5,7,14,28,31,59,118,177],
  [1,2,3,5,7,14,28,31,59,118,236],
  [1,2,3,5,7,14,28,31,62,93,186],
  [1,2,3,5,7,14,28,31,62,124,248],
  [1,2,3,5,7,14,28,56,61,117,234],
  [1,2,3,5,7,14,28,56,61,122,183],
  [1,2,3,5,7,14,28,56,61,122,244],
  [1,2,3,5,7,14,28,56,112,113,225],
  [1,2,3,5,7,14,28,56,112,113,226],
  [1,2,3,5,7,14,28,56,112,115,227],
  [1,2,3,5,7,14,28,56,112,115,230],
  [1,2,3,5,7,14,28,56,112,119,231],
  [1,2,3,5,7,14,28,56,112,119,238],
  [1,2,3,5,7,14,28,56,112,224,229],
  [1,2,3,5,10,11,22,44,55,110,220],
  [1,2,3,5,10,11,22,44,88,176,179],
  [1,2,3,5,10,11,22,44,88,176,181],
  [1,2,3,5,10,11,22,44,88,176,187],
  [1,2,3,5,10,11,22,44,88,176,352],
  [1,2,3,5,10,13,23,46,69,138,139],
  [1,2,3,5,10,13,23,46,69,138,151],
  [1,2,3,5,10,13,23,46,69,138,207],
  [1,2,3,5,10,13,23,46,69,138,276],
  [1,2,3,5,10,13,23,46,92,184,185],
  [1,2,3,5,10,13,23,46,92,184,197],
  [1,2,3,5,10,13,23,46,92,184,368],
  [1,2,3,5,10,13,26,39,78,156,312],
  [1,2,3,5,10,13,26,52,53,106,212],
  [1,2,3,5,10,13,26,52,104,107,211],
  [1,2,3,5,10,13,26,52,104,107,214],
  [1,2,3,5,10,13,26,52,104,109,213],
  [1,2,3,5,10,13,26,52,104,109,218],
  [1,2,3,5,10,13,26,52,104,208,209],
  [1,2,3,5,10,13,26,52,104,208,221],
  [1,2,3,5,10,15,25,50,75,125,250],
  [1,2,3,5,10,15,25,50,75,150,300],
  [1,2,3,5,10,15,25,50,100,101,201],
  [1,2,3,5,10,15,25,50,100,101,202],
  [1,2,3,5,10,15,25,50,100,103,203],
  [1,2,3,5,10,15,25,50,100,103,206],
  [1,2,3,5,10,15,25,50,100,200,205],
  [1,2,3,5,10,15,25,50,100,200,215],
  [1,2,3,5,10,15,25,50,100,200,400],
  [1,2,3,5,10,15,30,45,90,135,270],
  [1,2,3,5,10,15,30,45,90,180,360],
  [1,2,3,5,10,15,30,60,120,121,241],
  [1,2,3,5,10,15,30,60,120,121,242],
  [1,2,3,5,10,15,30,60,120,123,243],
  [1,2,3,5,10,15,30,60,120,123,246],
  [1,2,3,5,10,15,30,60,120,240,245],
  [1,2,3,5,10,15,30,60,120,240,255],
  [1,2,3,5,10,20,40,41,81,162,167],
  [1,2,3,5,10,20,40,41,81,162,324],
  [1,2,3,5,10,20,40,41,82,164,328],
  [1,2,3,5,10,20,40,43,83,166,249],
  [1,2,3,5,10,20,40,43,83,166,332],
  [1,2,3,5,10,20,40,43,86,172,344],
  [1,2,3,5,10,20,40,80,85,165,330],
  [1,2,3,5,10,20,40,80,85,170,340],
  [1,2,3,5,10,20,40,80,160,161,321],
  [1,2,3,5,10,20,40,80,160,161,322],
  [1,2,3,5,10,20,40,80,160,163,323],
  [1,2,3,5,10,20,40,80,160,163,326],
  [1,2,3,5,10,20,40,80,160,320,325],
  [1,2,3,6,9,18,27,54,108,111,219],
  [1,2,3,6,9,18,27,54,108,111,222],
  [1,2,3,6,9,18,27,54,108,216,217],
  [1,2,3,6,9,18,36,37,73,146,292],
  [1,2,3,6,9,18,36,37,74,148,296],
  [1,2,3,6,9,18,36,72,144,145,289],
  [1,2,3,6,9,18,36,72,144,145,290],
  [1,2,3,6,9,18,36,72,144,147,291],
  [1,2,3,6,9,18,36,72,144,147,294],
  [1,2,3,6,9,18,36,72,144,153,297],
  [1,2,3,6,9,18,36,72,144,153,306],
  [1,2,3,6,12,24,48,49,97,194,388],
  [1,2,3,6,12,24,48,49,98,196,199],
  [1,2,3,6,12,24,48,49,98,196,392],
  [1,2,3,6,12,24,48,51,99,198,396],
  [1,2,3,6,12,24,48,96,192,193,385],
  [1,2,3,6,12,24,48,96,192,193,386],
  [1,2,3,6,12,24,48,96,192,195,387],
  [1,2,3,6,12,24,48,96,192,195,390],
  [1,2,4,8,16,17,33,66,67,133,266],
  [1,2,4,8,16,17,33,66,67,134,268],
  [1,2,4,8,16,17,33,66,132,149,281],
  [1,2,4,8,16,17,33,66,132,149,298],
  [1,2,4,8,16,17,33,66,132,264,265],
  [1,2,4,8,16,17,34,68,136,137,273],
  [1,2,4,8,16,17,34,68,136,137,274],
  [1,2,4,8,16,32,64,65,129,131,262],
  [1,2,4,8,16,32,64,65,129,258,259],
  [1,2,4,8,16,32,64,65,130,260,261],
  [1,2,3,5,7,14,19,38,57,71,142,284],
  [1,2,3,5,7,14,19,38,57,95,190,191],
  [1,2,3,5,7,14,19,38,57,95,190,247],
  [1,2,3,5,7,14,19,38,57,95,190,285],
  [1,2,3,5,7,14,19,38,57,95,190,380],
  [1,2,3,5,7,14,19,38,57,114,171,342],
  [1,2,3,5,7,14,19,38,57,114,228,233],
  [1,2,3,5,7,14,19,38,57,114,228,235],
  [1,2,3,5,7,14,19,38,76,77,154,308],
  [1,2,3,5,7,14,19,38,76,79,155,310],
  [1,2,3,5,7,14,19,38,76,79,158,237],
  [1,2,3,5,7,14,19,38,76,79,158,316],
  [1,2,3,5,7,14,19,38,76,152,157,309],
  [1,2,3,5,7,14,19,38,76,152,157,314]]
theorem tS9 : stepsC 30 160 tL8 = some tL9 := by decide +kernel
def tL10 : List (List Nat) := [[1],
  [1,2],
  [1,2,3],
  [1,2,4],
  [1,2,3,5],
  [1,2,3,6],
  [1,2,4,8],
  [1,2,3,5,7],
  [1,2,3,5,10],
  [1,2,3,6,9],
  [1,2,3,6,12],
  [1,2,4,8,16],
  [1,2,3,5,7,14],
  [1,2,3,5,10,11],
  [1,2,3,5,10,13],
  [1,2,3,5,10,15],
  [1,2,3,5,10,20],
  [1,2,3,6,9,18],
  [1,2,3,6,12,24],
  [1,2,4,8,16,17],
  [1,2,4,8,16,32],
  [1,2,3,5,7,14,19],
  [1,2,3,5,7,14,21],
  [1,2,3,5,7,14,28],
  [1,2,3,5,10,11,22],
  [1,2,3,5,10,13,23],
  [1,2,3,5,10,13,26],
  [1,2,3,5,10,15,25],
  [1,2,3,5,10,15,30],
  [1,2,3,5,10,20,40],
  [1,2,3,6,9,18,27],
  [1,2,3,6,9,18,36],
  [1,2,3,6,12,24,48],
  [1,2,4,8,16,17,33],
  [1,2,4,8,16,17,34],
  [1,2,4,8,16,32,64],
  [1,2,3,5,7,14,19,38],
  [1,2,3,5,7,14,21,35],
  [1,2,3,5,7,14,21,42],
  [1,2,3,5,7,14,28,29],
  [1,2,3,5,7,14,28,31],
  [1,2,3,5,7,14,28,56],
  [1,2,3,5,10,11,22,44],
  [1,2,3,5,10,13,23,46],
  [1,2,3,5,10,13,26,39],
  [1,2,3,5,10,13,26,52],
  [1,2,3,5,10,15,25,50],
  [1,2,3,5,10,15,30,45],
  [1,2,3,5,10,15,30,60],
  [1,2,3,5,10,20,40,41],
  [1,2,3,5,10,20,40,43],
  [1,2,3,5,10,20,40,80],
  [1,2,3,6,9,18,27,54],
  [1,2,3,6,9,18,36,37],
  [1,2,3,6,9,18,36,72],
  [1,2,3,6,12,24,48,49],
  [1,2,3,6,12,24,48,51],
  [1,2,3,6,12,24,48,96],
  [1,2,4,8,16,17,33,66],
  [1,2,4,8,16,17,34,68],
  [1,2,4,8,16,32,64,65],
  [1,2,4,8,16,32,64,128],
  [1,2,3,5,7,14,19,38,57],
  [1,2,3,5,7,14,19,38,76],
  [1,2,3,5,7,14,21,35,70],
  [1,2,3,5,7,14,21,42,47],
  [1,2,3,5,7,14,21,42,63],
  [1,2,3,5,7,14,21,42,84],
  [1,2,3,5,7,14,28,29,58],
  [1,2,3,5,7,14,28,31,59],
  [1,2,3,5,7,14,28,31,62],
  [1,2,3,5,7,14,28,56,61],
  [1,2,3,5,7,14,28,56,112],
  [1,2,3,5,10,11,22,44,55],
  [1,2,3,5,10,11,22,44,88],
  [1,2,3,5,10,13,23,46,69],
  [1,2,3,5,10,13,23,46,92],
  [1,2,3,5,10,13,26,39,78],
  [1,2,3,5,10,13,26,52,53],
  [1,2,3,5,10,13,26,52,104],
  [1,2,3,5,10,15,25,50,75],
  [1,2,3,5,10,15,25,50,100],
  [1,2,3,5,10,15,30,45,90],
  [1,2,3,5,10,15,30,60,120],
  [1,2,3,5,10,20,40,41,81],
  [1,2,3,5,10,20,40,41,82],
  [1,2,3,5,10,20,40,43,83],
  [1,2,3,5,10,20,40,43,86],
  [1,2,3,5,10,20,40,80,85],
  [1,2,3,5,10,20,40,80,160],
  [1,2,3,6,9,18,27,54,108],
  [1,2,3,6,9,18,36,37,73],
  [1,2,3,6,9,18,36,37,74],
  [1,2,3,6,9,18,36,72,144],
  [1,2,3,6,12,24,48,49,97],
  [1,2,3,6,12,24,48,49,98],
  [1,2,3,6,12,24,48,51,99],
  [1,2,3,6,12,24,48,51,102],
  [1,2,3,6,12,24,48,96,192],
  [1,2,4,8,16,17,33,66,67],
  [1,2,4,8,16,17,33,66,132],
  [1,2,4,8,16,17,34,68,136],
  [1,2,4,8,16,32,64,65,129],
  [1,2,4,8,16,32,64,65,130],
  [1,2,4,8,16,32,64,128,256],
  [1,2,3,5,7,14,19,38,57,71],
  [1,2,3,5,7,14,19,38,57,95],
  [1,2,3,5,7,14,19,38,57,114],
  [1,2,3,5,7,14,19,38,76,77],
  [1,2,3,5,7,14,19,38,76,79],
  [1,2,3,5,7,14,19,38,76,152],
  [1,2,3,5,7,14,21,35,70,91],
  [1,2,3,5,7,14,21,35,70,105],
  [1,2,3,5,7,14,21,35,70,140],
  [1,2,3,5,7,14,21,42,47,89],
  [1,2,3,5,7,14,21,42,47,94],
  [1,2,3,5,7,14,21,42,63,126],
  [1,2,3,5,7,14,21,42,84,87],
  [1,2,3,5,7,14,21,42,84,168],
  [1,2,3,5,7,14,28,29,58,116],
  [1,2,3,5,7,14,28,31,59,118],
  [1,2,3,5,7,14,28,31,62,93],
  [1,2,3,5,7,14,28,31,62,124],
  [1,2,3,5,7,14,28,56,61,117],
  [1,2,3,5,7,14,28,56,61,122],
  [1,2,3,5,7,14,28,56,112,113],
  [1,2,3,5,7,14,28,56,112,115],
  [1,2,3,5,7,14,28,56,112,119],
  [1,2,3,5,7,14,28,56,112,224],
  [1,2,3,5,10,11,22,44,55,110],
  [1,2,3,5,10,11,22,44,88,176],
  [1,2,3,5,10,13,23,46,69,138],
  [1,2,3,5,10,13,23,46,92,184],
  [1,2,3,5,10,13,26,39,78,156],
  [1,2,3,5,10,13,26,52,53,106],
  [1,2,3,5,10,13,26,52,104,107],
  [1,2,3,5,10,13,26,52,104,109],
  [1,2,3,5,10,13,26,52,104,208],
  [1,2,3,5,10,15,25,50,75,125],
  [1,2,3,5,10,15,25,50,75,150],
  [1,2,3,5,10,15,25,50,100,101],
  [1,2,3,5,10,15,25,50,100,103],
  [1,2,3,5,10,15,25,50,100,200],
  [1,2,3,5,10,15,30,45,90,135],
  [1,2,3,5,10,15,30,45,90,180],
  [1,2,3,5,10,15,30,60,120,121],
  [1,2,3,5,10,15,30,60,120,123],
  [1,2,3,5,10,15,30,60,120,240],
  [1,2,3,5,10,20,40,41,81,162],
  [1,2,3,5,10,20,40,41,82,164],
  [1,2,3,5,10,20,40,43,83,166],
  [1,2,3,5,10,20,40,43,86,172],
  [1,2,3,5,10,20,40,80,85,165],
  [1,2,3,5,10,20,40,80,85,170],
  [1,2,3,5,10,20,40,80,160,161],
  [1,2,3,5,10,20,40,80,160,163],
  [1,2,3,5,10,20,40,80,160,320],
  [1,2,3,6,9,18,27,54,108,111],
  [1,2,3,6,9,18,27,54,108,216],
  [1,2,3,6,9,18,36,37,73,146],
  [1,2,3,6,9,18,36,37,74,148],
  [1,2,3,6,9,18,36,72,144,145],
  [1,2,3,6,9,18,36,72,144,147],
  [1,2,3,6,9,18,36,72,144,153],
  [1,2,3,6,9,18,36,72,144,288],
  [1,2,3,6,12,24,48,49,97,194],
  [1,2,3,6,12,24,48,49,98,196],
  [1,2,3,6,12,24,48,51,99,198],
  [1,2,3,6,12,24,48,51,102,204],
  [1,2,3,6,12,24,48,96,192,193],
  [1,2,3,6,12,24,48,96,192,195],
  [1,2,3,6,12,24,48,96,192,384],
  [1,2,4,8,16,17,33,66,67,133],
  [1,2,4,8,16,17,33,66,67,134],
  [1,2,4,8,16,17,33,66,132,149],
  [1,2,4,8,16,17,33,66,132,264],
  [1,2,4,8,16,17,34,68,136,137],
  [1,2,4,8,16,17,34,68,136,272],
  [1,2,4,8,16,32,64,65,129,131],
  [1,2,4,8,16,32,64,65,129,258],
  [1,2,4,8,16,32,64,65,130,260],
  [1,2,4,8,16,32,64,128,256,257],
  [1,2,3,5,7,14,19,38,57,71,142],
  [1,2,3,5,7,14,19,38,57,95,190],
  [1,2,3,5,7,14,19,38,57,114,171],
  [1,2,3,5,7,14,19,38,57,114,228],
  [1,2,3,5,7,14,19,38,76,77,154],
  [1,2,3,5,7,14,19,38,76,79,155],
  [1,2,3,5,7,14,19,38,76,79,158],
  [1,2,3,5,7,14,19,38,76,152,157],
  [1,2,3,5,7,14,19,38,76,152,159],
  [1,2,3,5,7,14,19,38,76,152,304],
  [1,2,3,5,7,14,21,35,70,91,182],
  [1,2,3,5,7,14,21,35,70,105,175],
  [1,2,3,5,7,14,21,35,70,105,210],
  [1,2,3,5,7,14,21,35,70,140,141],
  [1,2,3,5,7,14,21,35,70,140,143],
  [1,2,3,5,7,14,21,35,70,140,280],
  [1,2,3,5,7,14,21,42,47,89,178],
  [1,2,3,5,7,14,21,42,47,94,188],
  [1,2,3,5,7,14,21,42,63,126,127],
  [1,2,3,5,7,14,21,42,63,126,189],
  [1,2,3,5,7,14,21,42,63,126,252],
  [1,2,3,5,7,14,21,42,84,87,174],
  [1,2,3,5,7,14,21,42,84,168,169],
  [1,2,3,5,7,14,21,42,84,168,173],
  [1,2,3,5,7,14,21,42,84,168,336],
  [1,2,3,5,7,14,28,29,58,116,232],
  [1,2,3,5,7,14,28,31,59,118,177],
  [1,2,3,5,7,14,28,31,59,118,236],
  [1,2,3,5,7,14,28,31,62,93,186],
  [1,2,3,5,7,14,28,31,62,124,248],
  [1,2,3,5,7,14,28,56,61,117,234],
  [1,2,3,5,7,14,28,56,61,122,183],
  [1,2,3,5,7,14,28,56,61,122,244],
  [1,2,3,5,7,14,28,56,112,113,225],
  [1,2,3,5,7,14,28,56,112,113,226],
  [1,2,3,5,7,14,28,56,112,115,227],
  [1,2,3,5,7,14,28,56,112,115,230],
  [1,2,3,5,7,14,28,56,112,119,231],
  [1,2,3,5,7,14,28,56,112,119,238],
  [1,2,3,5,7,14,28,56,112,224,229],
  [1,2,3,5,10,11,22,44,55,110,220],
  [1,2,3,5,10,11,22,44,88,176,179],
  [1,2,3,5,10,11,22,44,88,176,181],
  [1,2,3,5,10,11,22,44,88,176,187],
  [1,2,3,5,10,11,22,44,88,176,352],
  [1,2,3,5,10,13,23,46,69,138,139],
  [1,2,3,5,10,13,23,46,69,138,151],
  [1,2,3,5,10,13,23,46,69,138,207],
  [1,2,3,5,10,13,23,46,69,138,276],
  [1,2,3,5,10,13,23,46,92,184,185],
  [1,2,3,5,10,13,23,46,92,184,197],
  [1,2,3,5,10,13,23,46,92,184,368],
  [1,2,3,5,10,13,26,39,78,156,312],
  [1,2,3,5,10,13,26,52,53,106,212],
  [1,2,3,5,10,13,26,52,104,107,211],
  [1,2,3,5,10,13,26,52,104,107,214],
  [1,2,3,5,10,13,26,52,104,109,213],
  [1,2,3,5,10,13,26,52,104,109,218],
  [1,2,3,5,10,13,26,52,104,208,209],
  [1,2,3,5,10,13,26,52,104,208,221],
  [1,2,3,5,10,15,25,50,75,125,250],
  [1,2,3,5,10,15,25,50,75,150,300],
  [1,2,3,5,10,15,25,50,100,101,201],
  [1,2,3,5,10,15,25,50,100,101,202],
  [1,2,3,5,10,15,25,50,100,103,203],
  [1,2,3,5,10,15,25,50,100,103,206],
  [1,2,3,5,10,15,25,50,100,200,205],
  [1,2,3,5,10,15,25,50,100,200,215],
  [1,2,3,5,10,15,25,50,100,200,400],
  [1,2,3,5,10,15,30,45,90,135,270],
  [1,2,3,5,10,15,30,45,90,180,360],
  [1,2,3,5,10,15,30,60,120,121,241],
  [1,2,3,5,10,15,30,60,120,121,242],
  [1,2,3,5,10,15,30,60,120,123,243],
  [1,2,3,5,10,15,30,60,120,123,246],
  [1,2,3,5,10,15,30,60,120,240,245],
  [1,2,3,5,10,15,30,60,120,240,255],
  [1,2,3,5,10,20,40,41,81,162,167],
  [1,2,3,5,10,20,40,41,81,162,324],
  [1,2,3,5,10,20,40,41,82,164,328],
  [1,2,3,5,10,20,40,43,83,166,249],
  [1,2,3,5,10,20,40,43,83,166,332],
  [1,2,3,5,10,20,40,43,86,172,344],
  [1,2,3,5,10,20,40,80,85,165,330],
  [1,2,3,5,10,20,40,80,85,170,340],
  [1,2,3,5,10,20,40,80,160,161,321],
  [1,2,3,5,10,20,40,80,160,161,322],
  [1,2,3,5,10,20,40,80,160,163,323],
  [1,2,3,5,10,20,40,80,160,163,326],
  [1,2,3,5,10,20,40,80,160,320,325],
  [1,2,3,6,9,18,27,54,108,111,219],
  [1,2,3,6,9,18,27,54,108,111,222],
  [1,2,3,6,9,18,27,54,108,216,217],
  [1,2,3,6,9,18,36,37,73,146,292],
  [1,2,3,6,9,18,36,37,74,148,296],
  [1,2,3,6,9,18,36,72,144,145,289],
  [1,2,3,6,9,18,36,72,144,145,290],
  [1,2,3,6,9,18,36,72,144,147,291],
  [1,2,3,6,9,18,36,72,144,147,294],
  [1,2,3,6,9,18,36,72,144,153,297],
  [1,2,3,6,9,18,36,72,144,153,306],
  [1,2,3,6,12,24,48,49,97,194,388],
  [1,2,3,6,12,24,48,49,98,196,199],
  [1,2,3,6,12,24,48,49,98,196,392],
  [1,2,3,6,12,24,48,51,99,198,396],
  [1,2,3,6,12,24,48,96,192,193,385],
  [1,2,3,6,12,24,48,96,192,193,386],
  [1,2,3,6,12,24,48,96,192,195,387],
  [1,2,3,6,12,24,48,96,192,195,390],
  [1,2,4,8,16,17,33,66,67,133,266],
  [1,2,4,8,16,17,33,66,67,134,268],
  [1,2,4,8,16,17,33,66,132,149,281],
  [1,2,4,8,16,17,33,66,132,149,298],
  [1,2,4,8,16,17,33,66,132,264,265],
  [1,2,4,8,16,17,34,68,136,137,273],
  [1,2,4,8,16,17,34,68,136,137,274],
  [1,2,4,8,16,32,64,65,129,131,262],
  [1,2,4,8,16,32,64,65,129,258,259],
  [1,2,4,8,16,32,64,65,130,260,261],
  [1,2,3,5,7,14,19,38,57,71,142,284],
  [1,2,3,5,7,14,19,38,57,95,190,191],
  [1,2,3,5,7,14,19,38,57,95,190,247],
  [1,2,3,5,7,14,19,38,57,95,190,285],
  [1,2,3,5,7,14,19,38,57,95,190,380],
  [1,2,3,5,7,14,19,38,57,114,171,342],
  [1,2,3,5,7,14,19,38,57,114,228,233],
  [1,2,3,5,7,14,19,38,57,114,228,235],
  [1,2,3,5,7,14,19,38,76,77,154,308],
  [1,2,3,5,7,14,19,38,76,79,155,310],
  [1,2,3,5,7,14,19,38,76,79,158,237],
  [1,2,3,5,7,14,19,38,76,79,158,316],
  [1,2,3,5,7,14,19,38,76,152,157,309],
  [1,2,3,5,7,14,19,38,76,152,157,314],
  [1,2,3,5,7,14,19,38,76,152,159,311],
  [1,2,3,5,7,14,19,38,76,152,159,318],
  [1,2,3,5,7,14,19,38,76,152,304,305],
  [1,2,3,5,7,14,19,38,76,152,304,307],
  [1,2,3,5,7,14,21,35,70,91,182,364],
  [1,2,3,5,7,14,21,35,70,105,175,350],
  [1,2,3,5,7,14,21,35,70,105,210,315],
  [1,2,3,5,7,14,21,35,70,140,141,282],
  [1,2,3,5,7,14,21,35,70,140,143,283],
  [1,2,3,5,7,14,21,35,70,140,143,286],
  [1,2,3,5,7,14,21,35,70,140,280,287],
  [1,2,3,5,7,14,21,35,70,140,280,301],
  [1,2,3,5,7,14,21,42,47,89,178,267],
  [1,2,3,5,7,14,21,42,47,89,178,356],
  [1,2,3,5,7,14,21,42,47,94,188,376],
  [1,2,3,5,7,14,21,42,63,126,127,253],
  [1,2,3,5,7,14,21,42,63,126,127,254],
  [1,2,3,5,7,14,21,42,63,126,189,378],
  [1,2,3,5,7,14,21,42,84,87,174,348],
  [1,2,3,5,7,14,21,42,84,168,169,337],
  [1,2,3,5,7,14,21,42,84,168,169,338],
  [1,2,3,5,7,14,21,42,84,168,173,341],
  [1,2,3,5,7,14,21,42,84,168,173,346],
  [1,2,3,5,7,14,21,42,84,168,336,339],
  [1,2,3,5,7,14,21,42,84,168,336,343],
  [1,2,3,5,7,14,21,42,84,168,336,357],
  [1,2,3,5,7,14,28,29,58,116,232,239],
  [1,2,3,5,7,14,28,31,59,118,177,295],
  [1,2,3,5,7,14,28,31,59,118,177,354],
  [1,2,3,5,7,14,28,31,62,93,186,279],
  [1,2,3,5,7,14,28,31,62,93,186,372],
  [1,2,3,5,7,14,28,31,62,124,248,251],
  [1,2,3,5,7,14,28,56,61,117,234,351],
  [1,2,3,5,7,14,28,56,61,122,183,366],
  [1,2,3,5,7,14,28,56,112,115,230,345]]
theorem tS10 : stepsC 30 190 tL9 = some tL10 := by decide +kernel
def tL11 : List (List Nat) := [[1],
  [1,2],
  [1,2,3],
  [1,2,4],
  [1,2,3,5],
  [1,2,3,6],
  [1,2,4,8],
  [1,2,3,5,7],
  [1,2,3,5,10],
  [1,2,3,6,9],
  [1,2,3,6,12],
  [1,2,4,8,16],
  [1,2,3,5,7,14],
  [1,2,3,5,10,11],
  [1,2,3,5,10,13],
  [1,2,3,5,10,15],
  [1,2,3,5,10,20],
  [1,2,3,6,9,18],
  [1,2,3,6,12,24],
  [1,2,4,8,16,17],
  [1,2,4,8,16,32],
  [1,2,3,5,7,14,19],
  [1,2,3,5,7,14,21],
  [1,2,3,5,7,14,28],
  [1,2,3,5,10,11,22],
  [1,2,3,5,10,13,23],
  [1,2,3,5,10,13,26],
  [1,2,3,5,10,15,25],
  [1,2,3,5,10,15,30],
  [1,2,3,5,10,20,40],
  [1,2,3,6,9,18,27],
  [1,2,3,6,9,18,36],
  [1,2,3,6,12,24,48],
  [1,2,4,8,16,17,33],
  [1,2,4,8,16,17,34],
  [1,2,4,8,16,32,64],
  [1,2,3,5,7,14,19,38],
  [1,2,3,5,7,14,21,35],
  [1,2,3,5,7,14,21,42],
  [1,2,3,5,7,14,28,29],
  [1,2,3,5,7,14,28,31],
  [1,2,3,5,7,14,28,56],
  [1,2,3,5,10,11,22,44],
  [1,2,3,5,10,13,23,46],
  [1,2,3,5,10,13,26,39],
  [1,2,3,5,10,13,26,52],
  [1,2,3,5,10,15,25,50],
  [1,2,3,5,10,15,30,45],
  [1,2,3,5,10,15,30,60],
  [1,2,3,5,10,20,40,41],
  [1,2,3,5,10,20,40,43],
  [1,2,3,5,10,20,40,80],
  [1,2,3,6,9,18,27,54],
  [1,2,3,6,9,18,36,37],
  [1,2,3,6,9,18,36,72],
  [1,2,3,6,12,24,48,49],
  [1,2,3,6,12,24,48,51],
  [1,2,3,6,12,24,48,96],
  [1,2,4,8,16,17,33,66],
  [1,2,4,8,16,17,34,68],
  [1,2,4,8,16,32,64,65],
  [1,2,4,8,16,32,64,128],
  [1,2,3,5,7,14,19,38,57],
  [1,2,3,5,7,14,19,38,76],
  [1,2,3,5,7,14,21,35,70],
  [1,2,3,5,7,14,21,42,47],
  [1,2,3,5,7,14,21,42,63],
  [1,2,3,5,7,14,21,42,84],
  [1,2,3,5,7,14,28,29,58],
  [1,2,3,5,7,14,28,31,59],
  [1,2,3,5,7,14,28,31,62],
  [1,2,3,5,7,14,28,56,61],
  [1,2,3,5,7,14,28,56,112],
  [1,2,3,5,10,11,22,44,55],
  [1,2,3,5,10,11,22,44,88],
  [1,2,3,5,10,13,23,46,69],
  [1,2,3,5,10,13,23,46,92],
  [1,2,3,5,10,13,26,39,78],
  [1,2,3,5,10,13,26,52,53],
  [1,2,3,5,10,13,26,52,104],
  [1,2,3,5,10,15,25,50,75],
  [1,2,3,5,10,15,25,50,100],
  [1,2,3,5,10,15,30,45,90],
  [1,2,3,5,10,15,30,60,120],
  [1,2,3,5,10,20,40,41,81],
  [1,2,3,5,10,20,40,41,82],
  [1,2,3,5,10,20,40,43,83],
  [1,2,3,5,10,20,40,43,86],
  [1,2,3,5,10,20,40,80,85],
  [1,2,3,5,10,20,40,80,160],
  [1,2,3,6,9,18,27,54,108],
  [1,2,3,6,9,18,36,37,73],
  [1,2,3,6,9,18,36,37,74],
  [1,2,3,6,9,18,36,72,144],
  [1,2,3,6,12,24,48,49,97],
  [1,2,3,6,12,24,48,49,98],
  [1,2,3,6,12,24,48,51,99],
  [1,2,3,6,12,24,48,51,102],
  [1,2,3,6,12,24,48,96,192],
  [1,2,4,8,16,17,33,66,67],
  [1,2,4,8,16,17,33,66,132],
  [1,2,4,8,16,17,34,68,136],
  [1,2,4,8,16,32,64,65,129],
  [1,2,4,8,16,32,64,65,130],
  [1,2,4,8,16,32,64,128,256],
  [1,2,3,5,7,14,19,38,57,71],
  [1,2,3,5,7,14,19,38,57,95],
  [1,2,3,5,7,14,19,38,57,114],
  [1,2,3,5,7,14,19,38,76,77],
  [1,2,3,5,7,14,19,38,76,79],
  [1,2,3,5,7,14,19,38,76,152],
  [1,2,3,5,7,14,21,35,70,91],
  [1,2,3,5,7,14,21,35,70,105],
  [1,2,3,5,7,14,21,35,70,140],
  [1,2,3,5,7,14,21,42,47,89],
  [1,2,3,5,7,14,21,42,47,94],
  [1,2,3,5,7,14,21,42,63,126],
  [1,2,3,5,7,14,21,42,84,87],
  [1,2,3,5,7,14,21,42,84,168],
  [1,2,3,5,7,14,28,29,58,116],
  [1,2,3,5,7,14,28,31,59,118],
  [1,2,3,5,7,14,28,31,62,93],
  [1,2,3,5,7,14,28,31,62,124],
  [1,2,3,5,7,14,28,56,61,117],
  [1,2,3,5,7,14,28,56,61,122],
  [1,2,3,5,7,14,28,56,112,113],
  [1,2,3,5,7,14,28,56,112,115],
  [1,2,3,5,7,14,28,56,112,119],
  [1,2,3,5,7,14,28,56,112,224],
  [1,2,3,5,10,11,22,44,55,110],
  [1,2,3,5,10,11,22,44,88,176],
  [1,2,3,5,10,13,23,46,69,138],
  [1,2,3,5,10,13,23,46,92,184],
  [1,2,3,5,10,13,26,39,78,156],
  [1,2,3,5,10,13,26,52,53,106],
  [1,2,3,5,10,13,26,52,104,107],
  [1,2,3,5,10,13,26,52,104,109],
  [1,2,3,5,10,13,26,52,104,208],
  [1,2,3,5,10,15,25,50,75,125],
  [1,2,3,5,10,15,25,50,75,150],
  [1,2,3,5,10,15,25,50,100,101],
  [1,2,3,5,10,15,25,50,100,103],
  [1,2,3,5,10,15,25,50,100,200],
  [1,2,3,5,10,15,30,45,90,135],
  [1,2,3,5,10,15,30,45,90,180],
  [1,2,3,5,10,15,30,60,120,121],
  [1,2,3,5,10,15,30,60,120,123],
  [1,2,3,5,10,15,30,60,120,240],
  [1,2,3,5,10,20,40,41,81,162],
  [1,2,3,5,10,20,40,41,82,164],
  [1,2,3,5,10,20,40,43,83,166],
  [1,2,3,5,10,20,40,43,86,172],
  [1,2,3,5,10,20,40,80,85,165],
  [1,2,3,5,10,20,40,80,85,170],
  [1,2,3,5,10,20,40,80,160,161],
  [1,2,3,5,10,20,40,80,160,163],
  [1,2,3,5,10,20,40,80,160,320],
  [1,2,3,6,9,18,27,54,108,111],
  [1,2,3,6,9,18,27,54,108,216],
  [1,2,3,6,9,18,36,37,73,146],
  [1,2,3,6,9,18,36,37,74,148],
  [1,2,3,6,9,18,36,72,144,145],
  [1,2,3,6,9,18,36,72,144,147],
  [1,2,3,6,9,18,36,72,144,153],
  [1,2,3,6,9,18,36,72,144,288],
  [1,2,3,6,12,24,48,49,97,194],
  [1,2,3,6,12,24,48,49,98,196],
  [1,2,3,6,12,24,48,51,99,198],
  [1,2,3,6,12,24,48,51,102,204],
  [1,2,3,6,12,24,48,96,192,193],
  [1,2,3,6,12,24,48,96,192,195],
  [1,2,3,6,12,24,48,96,192,384],
  [1,2,4,8,16,17,33,66,67,133],
  [1,2,4,8,16,17,33,66,67,134],
  [1,2,4,8,16,17,33,66,132,149],
  [1,2,4,8,16,17,33,66,132,264],
  [1,2,4,8,16,17,34,68,136,137],
  [1,2,4,8,16,17,34,68,136,272],
  [1,2,4,8,16,32,64,65,129,131],
  [1,2,4,8,16,32,64,65,129,258],
  [1,2,4,8,16,32,64,65,130,260],
  [1,2,4,8,16,32,64,128,256,257],
  [1,2,3,5,7,14,19,38,57,71,142],
  [1,2,3,5,7,14,19,38,57,95,190],
  [1,2,3,5,7,14,19,38,57,114,171],
  [1,2,3,5,7,14,19,38,57,114,228],
  [1,2,3,5,7,14,19,38,76,77,154],
  [1,2,3,5,7,14,19,38,76,79,155],
  [1,2,3,5,7,14,19,38,76,79,158],
  [1,2,3,5,7,14,19,38,76,152,157],
  [1,2,3,5,7,14,19,38,76,152,159],
  [1,2,3,5,7,14,19,38,76,152,304],
  [1,2,3,5,7,14,21,35,70,91,182],
  [1,2,3,5,7,14,21,35,70,105,175],
  [1,2,3,5,7,14,21,35,70,105,210],
  [1,2,3,5,7,14,21,35,70,140,141],
  [1,2,3,5,7,14,21,35,70,140,143],
  [1,2,3,5,7,14,21,35,70,140,280],
  [1,2,3,5,7,14,21,42,47,89,178],
  [1,2,3,5,7,14,21,42,47,94,188],
  [1,2,3,5,7,14,21,42,63,126,127],
  [1,2,3,5,7,14,21,42,63,126,189],
  [1,2,3,5,7,14,21,42,63,126,252],
  [1,2,3,5,7,14,21,42,84,87,174],
  [1,2,3,5,7,14,21,42,84,168,169],
  [1,2,3,5,7,14,21,42,84,168,173],
  [1,2,3,5,7,14,21,42,84,168,336],
  [1,2,3,5,7,14,28,29,58,116,232],
  [1,2,3,5,7,14,28,31,59,118,177],
  [1,2,3,5,7,14,28,31,59,118,236],
  [1,2,3,5,7,14,28,31,62,93,186],
  [1,2,3,5,7,14,28,31,62,124,248],
  [1,2,3,5,7,14,28,56,61,117,234],
  [1,2,3,5,7,14,28,56,61,122,183],
  [1,2,3,5,7,14,28,56,61,122,244],
  [1,2,3,5,7,14,28,56,112,113,225],
  [1,2,3,5,7,14,28,56,112,113,226],
  [1,2,3,5,7,14,28,56,112,115,227],
  [1,2,3,5,7,14,28,56,112,115,230],
  [1,2,3,5,7,14,28,56,112,119,231],
  [1,2,3,5,7,14,28,56,112,119,238],
  [1,2,3,5,7,14,28,56,112,224,229],
  [1,2,3,5,10,11,22,44,55,110,220],
  [1,2,3,5,10,11,22,44,88,176,179],
  [1,2,3,5,10,11,22,44,88,176,181],
  [1,2,3,5,10,11,22,44,88,176,187],
  [1,2,3,5,10,11,22,44,88,176,352],
  [1,2,3,5,10,13,23,46,69,138,139],
  [1,2,3,5,10,13,23,46,69,138,151],
  [1,2,3,5,10,13,23,46,69,138,207],
  [1,2,3,5,10,13,23,46,69,138,276],
  [1,2,3,5,10,13,23,46,92,184,185],
  [1,2,3,5,10,13,23,46,92,184,197],
  [1,2,3,5,10,13,23,46,92,184,368],
  [1,2,3,5,10,13,26,39,78,156,312],
  [1,2,3,5,10,13,26,52,53,106,212],
  [1,2,3,5,10,13,26,52,104,107,211],
  [1,2,3,5,10,13,26,52,104,107,214],
  [1,2,3,5,10,13,26,52,104,109,213],
  [1,2,3,5,10,13,26,52,104,109,218],
  [1,2,3,5,10,13,26,52,104,208,209],
  [1,2,3,5,10,13,26,52,104,208,221],
  [1,2,3,5,10,15,25,50,75,125,250],
  [1,2,3,5,10,15,25,50,75,150,300],
  [1,2,3,5,10,15,25,50,100,101,201],
  [1,2,3,5,10,15,25,50,100,101,202],
  [1,2,3,5,10,15,25,50,100,103,203],
  [1,2,3,5,10,15,25,50,100,103,206],
  [1,2,3,5,10,15,25,50,100,200,205],
  [1,2,3,5,10,15,25,50,100,200,215],
  [1,2,3,5,10,15,25,50,100,200,400],
  [1,2,3,5,10,15,30,45,90,135,270],
  [1,2,3,5,10,15,30,45,90,180,360],
  [1,2,3,5,10,15,30,60,120,121,241],
  [1,2,3,5,10,15,30,60,120,121,242],
  [1,2,3,5,10,15,30,60,120,123,243],
  [1,2,3,5,10,15,30,60,120,123,246],
  [1,2,3,5,10,15,30,60,120,240,245],
  [1,2,3,5,10,15,30,60,120,240,255],
  [1,2,3,5,10,20,40,41,81,162,167],
  [1,2,3,5,10,20,40,41,81,162,324],
  [1,2,3,5,10,20,40,41,82,164,328],
  [1,2,3,5,10,20,40,43,83,166,249],
  [1,2,3,5,10,20,40,43,83,166,332],
  [1,2,3,5,10,20,40,43,86,172,344],
  [1,2,3,5,10,20,40,80,85,165,330],
  [1,2,3,5,10,20,40,80,85,170,340],
  [1,2,3,5,10,20,40,80,160,161,321],
  [1,2,3,5,10,20,40,80,160,161,322],
  [1,2,3,5,10,20,40,80,160,163,323],
  [1,2,3,5,10,20,40,80,160,163,326],
  [1,2,3,5,10,20,40,80,160,320,325],
  [1,2,3,6,9,18,27,54,108,111,219],
  [1,2,3,6,9,18,27,54,108,111,222],
  [1,2,3,6,9,18,27,54,108,216,217],
  [1,2,3,6,9,18,36,37,73,146,292],
  [1,2,3,6,9,18,36,37,74,148,296],
  [1,2,3,6,9,18,36,72,144,145,289],
  [1,2,3,6,9,18,36,72,144,145,290],
  [1,2,3,6,9,18,36,72,144,147,291],
  [1,2,3,6,9,18,36,72,144,147,294],
  [1,2,3,6,9,18,36,72,144,153,297],
  [1,2,3,6,9,18,36,72,144,153,306],
  [1,2,3,6,12,24,48,49,97,194,388],
  [1,2,3,6,12,24,48,49,98,196,199],
  [1,2,3,6,12,24,48,49,98,196,392],
  [1,2,3,6,12,24,48,51,99,198,396],
  [1,2,3,6,12,24,48,96,192,193,385],
  [1,2,3,6,12,24,48,96,192,193,386],
  [1,2,3,6,12,24,48,96,192,195,387],
  [1,2,3,6,12,24,48,96,192,195,390],
  [1,2,4,8,16,17,33,66,67,133,266],
  [1,2,4,8,16,17,33,66,67,134,268],
  [1,2,4,8,16,17,33,66,132,149,281],
  [1,2,4,8,16,17,33,66,132,149,298],
  [1,2,4,8,16,17,33,66,132,264,265],
  [1,2,4,8,16,17,34,68,136,137,273],
  [1,2,4,8,16,17,34,68,136,137,274],
  [1,2,4,8,16,32,64,65,129,131,262],
  [1,2,4,8,16,32,64,65,129,258,259],
  [1,2,4,8,16,32,64,65,130,260,261],
  [1,2,3,5,7,14,19,38,57,71,142,284],
  [1,2,3,5,7,14,19,38,57,95,190,191],
  [1,2,3,5,7,14,19,38,57,95,190,247],
  [1,2,3,5,7,14,19,38,57,95,190,285],
  [1,2,3,5,7,14,19,38,57,95,190,380],
  [1,2,3,5,7,14,19,38,57,114,171,342],
  [1,2,3,5,7,14,19,38,57,114,228,233],
  [1,2,3,5,7,14,19,38,57,114,228,235],
  [1,2,3,5,7,14,19,38,76,77,154,308],
  [1,2,3,5,7,14,19,38,76,79,155,310],
  [1,2,3,5,7,14,19,38,76,79,158,237],
  [1,2,3,5,7,14,19,38,76,79,158,316],
  [1,2,3,5,7,14,19,38,76,152,157,309],
  [1,2,3,5,7,14,19,38,76,152,157,314],
  [1,2,3,5,7,14,19,38,76,152,159,311],
  [1,2,3,5,7,14,19,38,76,152,159,318],
  [1,2,3,5,7,14,19,38,76,152,304,305],
  [1,2,3,5,7,14,19,38,76,152,304,307],
  [1,2,3,5,7,14,21,35,70,91,182,364],
  [1,2,3,5,7,14,21,35,70,105,175,350],
  [1,2,3,5,7,14,21,35,70,105,210,315],
  [1,2,3,5,7,14,21,35,70,140,141,282],
  [1,2,3,5,7,14,21,35,70,140,143,283],
  [1,2,3,5,7,14,21,35,70,140,143,286],
  [1,2,3,5,7,14,21,35,70,140,280,287],
  [1,2,3,5,7,14,21,35,70,140,280,301],
  [1,2,3,5,7,14,21,42,47,89,178,267],
  [1,2,3,5,7,14,21,42,47,89,178,356],
  [1,2,3,5,7,14,21,42,47,94,188,376],
  [1,2,3,5,7,14,21,42,63,126,127,253],
  [1,2,3,5,7,14,21,42,63,126,127,254],
  [1,2,3,5,7,14,21,42,63,126,189,378],
  [1,2,3,5,7,14,21,42,84,87,174,348],
  [1,2,3,5,7,14,21,42,84,168,169,337],
  [1,2,3,5,7,14,21,42,84,168,169,338],
  [1,2,3,5,7,14,21,42,84,168,173,341],
  [1,2,3,5,7,14,21,42,84,168,173,346],
  [1,2,3,5,7,14,21,42,84,168,336,339],
  [1,2,3,5,7,14,21,42,84,168,336,343],
  [1,2,3,5,7,14,21,42,84,168,336,357],
  [1,2,3,5,7,14,28,29,58,116,232,239],
  [1,2,3,5,7,14,28,31,59,118,177,295],
  [1,2,3,5,7,14,28,31,59,118,177,354],
  [1,2,3,5,7,14,28,31,62,93,186,279],
  [1,2,3,5,7,14,28,31,62,93,186,372],
  [1,2,3,5,7,14,28,31,62,124,248,251],
  [1,2,3,5,7,14,28,56,61,117,234,351],
  [1,2,3,5,7,14,28,56,61,122,183,366],
  [1,2,3,5,7,14,28,56,112,115,230,345],
  [1,2,3,5,10,11,22,44,55,110,220,223],
  [1,2,3,5,10,11,22,44,55,110,220,275],
  [1,2,3,5,10,11,22,44,88,176,179,355],
  [1,2,3,5,10,11,22,44,88,176,179,358],
  [1,2,3,5,10,11,22,44,88,176,181,269],
  [1,2,3,5,10,11,22,44,88,176,181,362],
  [1,2,3,5,10,11,22,44,88,176,187,363],
  [1,2,3,5,10,11,22,44,88,176,187,374],
  [1,2,3,5,10,11,22,44,88,176,352,353],
  [1,2,3,5,10,13,23,46,69,138,139,277],
  [1,2,3,5,10,13,23,46,69,138,139,278],
  [1,2,3,5,10,13,23,46,69,138,151,302],
  [1,2,3,5,10,13,23,46,69,138,276,299],
  [1,2,3,5,10,13,23,46,92,184,185,369],
  [1,2,3,5,10,13,23,46,92,184,185,370],
  [1,2,3,5,10,13,23,46,92,184,197,381],
  [1,2,3,5,10,13,23,46,92,184,197,394],
  [1,2,3,5,10,13,23,46,92,184,368,371],
  [1,2,3,5,10,13,23,46,92,184,368,373],
  [1,2,3,5,10,13,23,46,92,184,368,391],
  [1,2,3,5,10,13,26,39,78,156,312,313],
  [1,2,3,5,10,13,26,39,78,156,312,317],
  [1,2,3,5,10,13,26,52,104,107,211,263],
  [1,2,3,5,10,13,26,52,104,109,218,327],
  [1,2,3,5,10,15,25,50,75,125,250,375],
  [1,2,3,5,10,15,25,50,75,150,300,303],
  [1,2,3,5,10,15,30,45,90,135,270,271],
  [1,2,3,5,10,15,30,45,90,180,360,361],
  [1,2,3,5,10,15,30,45,90,180,360,365],
  [1,2,3,5,10,20,40,41,81,162,167,329],
  [1,2,3,5,10,20,40,41,81,162,167,334]]
theorem tS11 : stepsC 40 220 tL10 = some tL11 := by decide +kernel
def tL12 : List (List Nat) := [[1],
  [1,2],
  [1,2,3],
  [1,2,4],
  [1,2,3,5],
  [1,2,3,6],
  [1,2,4,8],
  [1,2,3,5,7],
  [1,2,3,5,10],
  [1,2,3,6,9],
  [1,2,3,6,12],
  [1,2,4,8,16],
  [1,2,3,5,7,14],
  [1,2,3,5,10,11],
  [1,2,3,5,10,13],
  [1,2,3,5,10,15],
  [1,2,3,5,10,20],
  [1,2,3,6,9,18],
  [1,2,3,6,12,24],
  [1,2,4,8,16,17],
  [1,2,4,8,16,32],
  [1,2,3,5,7,14,19],
  [1,2,3,5,7,14,21],
  [1,2,3,5,7,14,28],
  [1,2,3,5,10,11,22],
  [1,2,3,5,10,13,23],
  [1,2,3,5,10,13,26],
  [1,2,3,5,10,15,25],
  [1,2,3,5,10,15,30],
  [1,2,3,5,10,20,40],
  [1,2,3,6,9,18,27],
  [1,2,3,6,9,18,36],
  [1,2,3,6,12,24,48],
  [1,2,4,8,16,17,33],
  [1,2,4,8,16,17,34],
  [1,2,4,8,16,32,64],
  [1,2,3,5,7,14,19,38],
  [1,2,3,5,7,14,21,35],
  [1,2,3,5,7,14,21,42],
  [1,2,3,5,7,14,28,29],
  [1,2,3,5,7,14,28,31],
  [1,2,3,5,7,14,28,56],
  [1,2,3,5,10,11,22,44],
  [1,2,3,5,10,13,23,46],
  [1,2,3,5,10,13,26,39],
  [1,2,3,5,10,13,26,52],
  [1,2,3,5,10,15,25,50],
  [1,2,3,5,10,15,30,45],
  [1,2,3,5,10,15,30,60],
  [1,2,3,5,10,20,40,41],
  [1,2,3,5,10,20,40,43],
  [1,2,3,5,10,20,40,80],
  [1,2,3,6,9,18,27,54],
  [1,2,3,6,9,18,36,37],
  [1,2,3,6,9,18,36,72],
  [1,2,3,6,12,24,48,49],
  [1,2,3,6,12,24,48,51],
  [1,2,3,6,12,24,48,96],
  [1,2,4,8,16,17,33,66],
  [1,2,4,8,16,17,34,68],
  [1,2,4,8,16,32,64,65],
  [1,2,4,8,16,32,64,128],
  [1,2,3,5,7,14,19,38,57],
  [1,2,3,5,7,14,19,38,76],
  [1,2,3,5,7,14,21,35,70],
  [1,2,3,5,7,14,21,42,47],
  [1,2,3,5,7,14,21,42,63],
  [1,2,3,5,7,14,21,42,84],
  [1,2,3,5,7,14,28,29,58],
  [1,2,3,5,7,14,28,31,59],
  [1,2,3,5,7,14,28,31,62],
  [1,2,3,5,7,14,28,56,61],
  [1,2,3,5,7,14,28,56,112],
  [1,2,3,5,10,11,22,44,55],
  [1,2,3,5,10,11,22,44,88],
  [1,2,3,5,10,13,23,46,69],
  [1,2,3,5,10,13,23,46,92],
  [1,2,3,5,10,13,26,39,78],
  [1,2,3,5,10,13,26,52,53],
  [1,2,3,5,10,13,26,52,104],
  [1,2,3,5,10,15,25,50,75],
  [1,2,3,5,10,15,25,50,100],
  [1,2,3,5,10,15,30,45,90],
  [1,2,3,5,10,15,30,60,120],
  [1,2,3,5,10,20,40,41,81],
  [1,2,3,5,10,20,40,41,82],
  [1,2,3,5,10,20,40,43,83],
  [1,2,3,5,10,20,40,43,86],
  [1,2,3,5,10,20,40,80,85],
  [1,2,3,5,10,20,40,80,160],
  [1,2,3,6,9,18,27,54,108],
  [1,2,3,6,9,18,36,37,73],
  [1,2,3,6,9,18,36,37,74],
  [1,2,3,6,9,18,36,72,144],
  [1,2,3,6,12,24,48,49,97],
  [1,2,3,6,12,24,48,49,98],
  [1,2,3,6,12,24,48,51,99],
  [1,2,3,6,12,24,48,51,102],
  [1,2,3,6,12,24,48,96,192],
  [1,2,4,8,16,17,33,66,67],
  [1,2,4,8,16,17,33,66,132],
  [1,2,4,8,16,17,34,68,136],
  [1,2,4,8,16,32,64,65,129],
  [1,2,4,8,16,32,64,65,130],
  [1,2,4,8,16,32,64,128,256],
  [1,2,3,5,7,14,19,38,57,71],
  [1,2,3,5,7,14,19,38,57,95],
  [1,2,3,5,7,14,19,38,57,114],
  [1,2,3,5,7,14,19,38,76,77],
  [1,2,3,5,7,14,19,38,76,79],
  [1,2,3,5,7,14,19,38,76,152],
  [1,2,3,5,7,14,21,35,70,91],
  [1,2,3,5,7,14,21,35,70,105],
  [1,2,3,5,7,14,21,35,70,140],
  [1,2,3,5,7,14,21,42,47,89],
  [1,2,3,5,7,14,21,42,47,94],
  [1,2,3,5,7,14,21,42,63,126],
  [1,2,3,5,7,14,21,42,84,87],
  [1,2,3,5,7,14,21,42,84,168],
  [1,2,3,5,7,14,28,29,58,116],
  [1,2,3,5,7,14,28,31,59,118],
  [1,2,3,5,7,14,28,31,62,93],
  [1,2,3,5,7,14,28,31,62,124],
  [1,2,3,5,7,14,28,56,61,117],
  [1,2,3,5,7,14,28,56,61,122],
  [1,2,3,5,7,14,28,56,112,113],
  [1,2,3,5,7,14,28,56,112,115],
  [1,2,3,5,7,14,28,56,112,119],
  [1,2,3,5,7,14,28,56,112,224],
  [1,2,3,5,10,11,22,44,55,110],
  [1,2,3,5,10,11,22,44,88,176],
  [1,2,3,5,10,13,23,46,69,138],
  [1,2,3,5,10,13,23,46,92,184],
  [1,2,3,5,10,13,26,39,78,156],
  [1,2,3,5,10,13,26,52,53,106],
  [1,2,3,5,10,13,26,52,104,107],
  [1,2,3,5,10,13,26,52,104,109],
  [1,2,3,5,10,13,26,52,104,208],
  [1,2,3,5,10,15,25,50,75,125],
  [1,2,3,5,10,15,25,50,75,150],
  [1,2,3,5,10,15,25,50,100,101],
  [1,2,3,5,10,15,25,50,100,103],
  [1,2,3,5,10,15,25,50,100,200],
  [1,2,3,5,10,15,30,45,90,135],
  [1,2,3,5,10,15,30,45,90,180],
  [1,2,3,5,10,15,30,60,120,121],
  [1,2,3,5,10,15,30,60,120,123],
  [1,2,3,5,10,15,30,60,120,240],
  [1,2,3,5,10,20,40,41,81,162],
  [1,2,3,5,10,20,40,41,82,164],
  [1,2,3,5,10,20,40,43,83,166],
  [1,2,3,5,10,20,40,43,86,172],
  [1,2,3,5,10,20,40,80,85,165],
  [1,2,3,5,10,20,40,80,85,170],
  [1,2,3,5,10,20,40,80,160,161],
  [1,2,3,5,10,20,40,80,160,163],
  [1,2,3,5,10,20,40,80,160,320],
  [1,2,3,6,9,18,27,54,108,111],
  [1,2,3,6,9,18,27,54,108,216],
  [1,2,3,6,9,18,36,37,73,146],
  [1,2,3,6,9,18,36,37,74,148],
  [1,2,3,6,9,18,36,72,144,145],
  [1,2,3,6,9,18,36,72,144,147],
  [1,2,3,6,9,18,36,72,144,153],
  [1,2,3,6,9,18,36,72,144,288],
  [1,2,3,6,12,24,48,49,97,194],
  [1,2,3,6,12,24,48,49,98,196],
  [1,2,3,6,12,24,48,51,99,198],
  [1,2,3,6,12,24,48,51,102,204],
  [1,2,3,6,12,24,48,96,192,193],
  [1,2,3,6,12,24,48,96,192,195],
  [1,2,3,6,12,24,48,96,192,384],
  [1,2,4,8,16,17,33,66,67,133],
  [1,2,4,8,16,17,33,66,67,134],
  [1,2,4,8,16,17,33,66,132,149],
  [1,2,4,8,16,17,33,66,132,264],
  [1,2,4,8,16,17,34,68,136,137],
  [1,2,4,8,16,17,34,68,136,272],
  [1,2,4,8,16,32,64,65,129,131],
  [1,2,4,8,16,32,64,65,129,258],
  [1,2,4,8,16,32,64,65,130,260],
  [1,2,4,8,16,32,64,128,256,257],
  [1,2,3,5,7,14,19,38,57,71,142],
  [1,2,3,5,7,14,19,38,57,95,190],
  [1,2,3,5,7,14,19,38,57,114,171],
  [1,2,3,5,7,14,19,38,57,114,228],
  [1,2,3,5,7,14,19,38,76,77,154],
  [1,2,3,5,7,14,19,38,76,79,155],
  [1,2,3,5,7,14,19,38,76,79,158],
  [1,2,3,5,7,14,19,38,76,152,157],
  [1,2,3,5,7,14,19,38,76,152,159],
  [1,2,3,5,7,14,19,38,76,152,304],
  [1,2,3,5,7,14,21,35,70,91,182],
  [1,2,3,5,7,14,21,35,70,105,175],
  [1,2,3,5,7,14,21,35,70,105,210],
  [1,2,3,5,7,14,21,35,70,140,141],
  [1,2,3,5,7,14,21,35,70,140,143],
  [1,2,3,5,7,14,21,35,70,140,280],
  [1,2,3,5,7,14,21,42,47,89,178],
  [1,2,3,5,7,14,21,42,47,94,188],
  [1,2,3,5,7,14,21,42,63,126,127],
  [1,2,3,5,7,14,21,42,63,126,189],
  [1,2,3,5,7,14,21,42,63,126,252],
  [1,2,3,5,7,14,21,42,84,87,174],
  [1,2,3,5,7,14,21,42,84,168,169],
  [1,2,3,5,7,14,21,42,84,168,173],
  [1,2,3,5,7,14,21,42,84,168,336],
  [1,2,3,5,7,14,28,29,58,116,232],
  [1,2,3,5,7,14,28,31,59,118,177],
  [1,2,3,5,7,14,28,31,59,118,236],
  [1,2,3,5,7,14,28,31,62,93,186],
  [1,2,3,5,7,14,28,31,62,124,248],
  [1,2,3,5,7,14,28,56,61,117,234],
  [1,2,3,5,7,14,28,56,61,122,183],
  [1,2,3,5,7,14,28,56,61,122,244],
  [1,2,3,5,7,14,28,56,112,113,225],
  [1,2,3,5,7,14,28,56,112,113,226],
  [1,2,3,5,7,14,28,56,112,115,227],
  [1,2,3,5,7,14,28,56,112,115,230],
  [1,2,3,5,7,14,28,56,112,119,231],
  [1,2,3,5,7,14,28,56,112,119,238],
  [1,2,3,5,7,14,28,56,112,224,229],
  [1,2,3,5,10,11,22,44,55,110,220],
  [1,2,3,5,10,11,22,44,88,176,179],
  [1,2,3,5,10,11,22,44,88,176,181],
  [1,2,3,5,10,11,22,44,88,176,187],
  [1,2,3,5,10,11,22,44,88,176,352],
  [1,2,3,5,10,13,23,46,69,138,139],
  [1,2,3,5,10,13,23,46,69,138,151],
  [1,2,3,5,10,13,23,46,69,138,207],
  [1,2,3,5,10,13,23,46,69,138,276],
  [1,2,3,5,10,13,23,46,92,184,185],
  [1,2,3,5,10,13,23,46,92,184,197],
  [1,2,3,5,10,13,23,46,92,184,368],
  [1,2,3,5,10,13,26,39,78,156,312],
  [1,2,3,5,10,13,26,52,53,106,212],
  [1,2,3,5,10,13,26,52,104,107,211],
  [1,2,3,5,10,13,26,52,104,107,214],
  [1,2,3,5,10,13,26,52,104,109,213],
  [1,2,3,5,10,13,26,52,104,109,218],
  [1,2,3,5,10,13,26,52,104,208,209],
  [1,2,3,5,10,13,26,52,104,208,221],
  [1,2,3,5,10,15,25,50,75,125,250],
  [1,2,3,5,10,15,25,50,75,150,300],
  [1,2,3,5,10,15,25,50,100,101,201],
  [1,2,3,5,10,15,25,50,100,101,202],
  [1,2,3,5,10,15,25,50,100,103,203],
  [1,2,3,5,10,15,25,50,100,103,206],
  [1,2,3,5,10,15,25,50,100,200,205],
  [1,2,3,5,10,15,25,50,100,200,215],
  [1,2,3,5,10,15,25,50,100,200,400],
  [1,2,3,5,10,15,30,45,90,135,270],
  [1,2,3,5,10,15,30,45,90,180,360],
  [1,2,3,5,10,15,30,60,120,121,241],
  [1,2,3,5,10,15,30,60,120,121,242],
  [1,2,3,5,10,15,30,60,120,123,243],
  [1,2,3,5,10,15,30,60,120,123,246],
  [1,2,3,5,10,15,30,60,120,240,245],
  [1,2,3,5,10,15,30,60,120,240,255],
  [1,2,3,5,10,20,40,41,81,162,167],
  [1,2,3,5,10,20,40,41,81,162,324],
  [1,2,3,5,10,20,40,41,82,164,328],
  [1,2,3,5,10,20,40,43,83,166,249],
  [1,2,3,5,10,20,40,43,83,166,332],
  [1,2,3,5,10,20,40,43,86,172,344],
  [1,2,3,5,10,20,40,80,85,165,330],
  [1,2,3,5,10,20,40,80,85,170,340],
  [1,2,3,5,10,20,40,80,160,161,321],
  [1,2,3,5,10,20,40,80,160,161,322],
  [1,2,3,5,10,20,40,80,160,163,323],
  [1,2,3,5,10,20,40,80,160,163,326],
  [1,2,3,5,10,20,40,80,160,320,325],
  [1,2,3,6,9,18,27,54,108,111,219],
  [1,2,3,6,9,18,27,54,108,111,222],
  [1,2,3,6,9,18,27,54,108,216,217],
  [1,2,3,6,9,18,36,37,73,146,292],
  [1,2,3,6,9,18,36,37,74,148,296],
  [1,2,3,6,9,18,36,72,144,145,289],
  [1,2,3,6,9,18,36,72,144,145,290],
  [1,2,3,6,9,18,36,72,144,147,291],
  [1,2,3,6,9,18,36,72,144,147,294],
  [1,2,3,6,9,18,36,72,144,153,297],
  [1,2,3,6,9,18,36,72,144,153,306],
  [1,2,3,6,12,24,48,49,97,194,388],
  [1,2,3,6,12,24,48,49,98,196,199],
  [1,2,3,6,12,24,48,49,98,196,392],
  [1,2,3,6,12,24,48,51,99,198,396],
  [1,2,3,6,12,24,48,96,192,193,385],
  [1,2,3,6,12,24,48,96,192,193,386],
  [1,2,3,6,12,24,48,96,192,195,387],
  [1,2,3,6,12,24,48,96,192,195,390],
  [1,2,4,8,16,17,33,66,67,133,266],
  [1,2,4,8,16,17,33,66,67,134,268],
  [1,2,4,8,16,17,33,66,132,149,281],
  [1,2,4,8,16,17,33,66,132,149,298],
  [1,2,4,8,16,17,33,66,132,264,265],
  [1,2,4,8,16,17,34,68,136,137,273],
  [1,2,4,8,16,17,34,68,136,137,274],
  [1,2,4,8,16,32,64,65,129,131,262],
  [1,2,4,8,16,32,64,65,129,258,259],
  [1,2,4,8,16,32,64,65,130,260,261],
  [1,2,3,5,7,14,19,38,57,71,142,284],
  [1,2,3,5,7,14,19,38,57,95,190,191],
  [1,2,3,5,7,14,19,38,57,95,190,247],
  [1,2,3,5,7,14,19,38,57,95,190,285],
  [1,2,3,5,7,14,19,38,57,95,190,380],
  [1,2,3,5,7,14,19,38,57,114,171,342],
  [1,2,3,5,7,14,19,38,57,114,228,233],
  [1,2,3,5,7,14,19,38,57,114,228,235],
  [1,2,3,5,7,14,19,38,76,77,154,308],
  [1,2,3,5,7,14,19,38,76,79,155,310],
  [1,2,3,5,7,14,19,38,76,79,158,237],
  [1,2,3,5,7,14,19,38,76,79,158,316],
  [1,2,3,5,7,14,19,38,76,152,157,309],
  [1,2,3,5,7,14,19,38,76,152,157,314],
  [1,2,3,5,7,14,19,38,76,152,159,311],
  [1,2,3,5,7,14,19,38,76,152,159,318],
  [1,2,3,5,7,14,19,38,76,152,304,305],
  [1,2,3,5,7,14,19,38,76,152,304,307],
  [1,2,3,5,7,14,21,35,70,91,182,364],
  [1,2,3,5,7,14,21,35,70,105,175,350],
  [1,2,3,5,7,14,21,35,70,105,210,315],
  [1,2,3,5,7,14,21,35,70,140,141,282],
  [1,2,3,5,7,14,21,35,70,140,143,283],
  [1,2,3,5,7,14,21,35,70,140,143,286],
  [1,2,3,5,7,14,21,35,70,140,280,287],
  [1,2,3,5,7,14,21,35,70,140,280,301],
  [1,2,3,5,7,14,21,42,47,89,178,267],
  [1,2,3,5,7,14,21,42,47,89,178,356],
  [1,2,3,5,7,14,21,42,47,94,188,376],
  [1,2,3,5,7,14,21,42,63,126,127,253],
  [1,2,3,5,7,14,21,42,63,126,127,254],
  [1,2,3,5,7,14,21,42,63,126,189,378],
  [1,2,3,5,7,14,21,42,84,87,174,348],
  [1,2,3,5,7,14,21,42,84,168,169,337],
  [1,2,3,5,7,14,21,42,84,168,169,338],
  [1,2,3,5,7,14,21,42,84,168,173,341],
  [1,2,3,5,7,14,21,42,84,168,173,346],
  [1,2,3,5,7,14,21,42,84,168,336,339],
  [1,2,3,5,7,14,21,42,84,168,336,343],
  [1,2,3,5,7,14,21,42,84,168,336,357],
  [1,2,3,5,7,14,28,29,58,116,232,239],
  [1,2,3,5,7,14,28,31,59,118,177,295],
  [1,2,3,5,7,14,28,31,59,118,177,354],
  [1,2,3,5,7,14,28,31,62,93,186,279],
  [1,2,3,5,7,14,28,31,62,93,186,372],
  [1,2,3,5,7,14,28,31,62,124,248,251],
  [1,2,3,5,7,14,28,56,61,117,234,351],
  [1,2,3,5,7,14,28,56,61,122,183,366],
  [1,2,3,5,7,14,28,56,112,115,230,345],
  [1,2,3,5,10,11,22,44,55,110,220,223],
  [1,2,3,5,10,11,22,44,55,110,220,275],
  [1,2,3,5,10,11,22,44,88,176,179,355],
  [1,2,3,5,10,11,22,44,88,176,179,358],
  [1,2,3,5,10,11,22,44,88,176,181,269],
  [1,2,3,5,10,11,22,44,88,176,181,362],
  [1,2,3,5,10,11,22,44,88,176,187,363],
  [1,2,3,5,10,11,22,44,88,176,187,374],
  [1,2,3,5,10,11,22,44,88,176,352,353],
  [1,2,3,5,10,13,23,46,69,138,139,277],
  [1,2,3,5,10,13,23,46,69,138,139,278],
  [1,2,3,5,10,13,23,46,69,138,151,302],
  [1,2,3,5,10,13,23,46,69,138,276,299],
  [1,2,3,5,10,13,23,46,92,184,185,369],
  [1,2,3,5,10,13,23,46,92,184,185,370],
  [1,2,3,5,10,13,23,46,92,184,197,381],
  [1,2,3,5,10,13,23,46,92,184,197,394],
  [1,2,3,5,10,13,23,46,92,184,368,371],
  [1,2,3,5,10,13,23,46,92,184,368,373],
  [1,2,3,5,10,13,23,46,92,184,368,391],
  [1,2,3,5,10,13,26,39,78,156,312,313],
  [1,2,3,5,10,13,26,39,78,156,312,317],
  [1,2,3,5,10,13,26,52,104,107,211,263],
  [1,2,3,5,10,13,26,52,104,109,218,327],
  [1,2,3,5,10,15,25,50,75,125,250,375],
  [1,2,3,5,10,15,25,50,75,150,300,303],
  [1,2,3,5,10,15,30,45,90,135,270,271],
  [1,2,3,5,10,15,30,45,90,180,360,361],
  [1,2,3,5,10,15,30,45,90,180,360,365],
  [1,2,3,5,10,20,40,41,81,162,167,329],
  [1,2,3,5,10,20,40,41,81,162,167,334],
  [1,2,3,5,10,20,40,41,82,164,328,331],
  [1,2,3,5,10,20,40,41,82,164,328,333],
  [1,2,3,5,10,20,40,43,83,166,332,335],
  [1,2,3,5,10,20,40,43,86,172,344,347],
  [1,2,3,5,10,20,40,43,86,172,344,349],
  [1,2,3,6,9,18,36,37,73,146,292,293],
  [1,2,3,6,12,24,48,49,97,194,388,389],
  [1,2,3,6,12,24,48,49,98,196,199,395],
  [1,2,3,6,12,24,48,49,98,196,199,398],
  [1,2,3,6,12,24,48,49,98,196,392,393],
  [1,2,3,6,12,24,48,51,99,198,396,397],
  [1,2,3,6,12,24,48,51,99,198,396,399]]
theorem tS12 : stepsC 40 260 tL11 = some tL12 := by decide +kernel
def tL13 : List (List Nat) := [[1],
  [1,2],
  [1,2,3],
  [1,2,4],
  [1,2,3,5],
  [1,2,3,6],
  [1,2,4,8],
  [1,2,3,5,7],
  [1,2,3,5,10],
  [1,2,3,6,9],
  [1,2,3,6,12],
  [1,2,4,8,16],
  [1,2,3,5,7,14],
  [1,2,3,5,10,11],
  [1,2,3,5,10,13],
  [1,2,3,5,10,15],
  [1,2,3,5,10,20],
  [1,2,3,6,9,18],
  [1,2,3,6,12,24],
  [1,2,4,8,16,17],
  [1,2,4,8,16,32],
  [1,2,3,5,7,14,19],
  [1,2,3,5,7,14,21],
  [1,2,3,5,7,14,28],
  [1,2,3,5,10,11,22],
  [1,2,3,5,10,13,23],
  [1,2,3,5,10,13,26],
  [1,2,3,5,10,15,25],
  [1,2,3,5,10,15,30],
  [1,2,3,5,10,20,40],
  [1,2,3,6,9,18,27],
  [1,2,3,6,9,18,36],
  [1,2,3,6,12,24,48],
  [1,2,4,8,16,17,33],
  [1,2,4,8,16,17,34],
  [1,2,4,8,16,32,64],
  [1,2,3,5,7,14,19,38],
  [1,2,3,5,7,14,21,35],
  [1,2,3,5,7,14,21,42],
  [1,2,3,5,7,14,28,29],
  [1,2,3,5,7,14,28,31],
  [1,2,3,5,7,14,28,56],
  [1,2,3,5,10,11,22,44],
  [1,2,3,5,10,13,23,46],
  [1,2,3,5,10,13,26,39],
  [1,2,3,5,10,13,26,52],
  [1,2,3,5,10,15,25,50],
  [1,2,3,5,10,15,30,45],
  [1,2,3,5,10,15,30,60],
  [1,2,3,5,10,20,40,41],
  [1,2,3,5,10,20,40,43],
  [1,2,3,5,10,20,40,80],
  [1,2,3,6,9,18,27,54],
  [1,2,3,6,9,18,36,37],
  [1,2,3,6,9,18,36,72],
  [1,2,3,6,12,24,48,49],
  [1,2,3,6,12,24,48,51],
  [1,2,3,6,12,24,48,96],
  [1,2,4,8,16,17,33,66],
  [1,2,4,8,16,17,34,68],
  [1,2,4,8,16,32,64,65],
  [1,2,4,8,16,32,64,128],
  [1,2,3,5,7,14,19,38,57],
  [1,2,3,5,7,14,19,38,76],
  [1,2,3,5,7,14,21,35,70],
  [1,2,3,5,7,14,21,42,47],
  [1,2,3,5,7,14,21,42,63],
  [1,2,3,5,7,14,21,42,84],
  [1,2,3,5,7,14,28,29,58],
  [1,2,3,5,7,14,28,31,59],
  [1,2,3,5,7,14,28,31,62],
  [1,2,3,5,7,14,28,56,61],
  [1,2,3,5,7,14,28,56,112],
  [1,2,3,5,10,11,22,44,55],
  [1,2,3,5,10,11,22,44,88],
  [1,2,3,5,10,13,23,46,69],
  [1,2,3,5,10,13,23,46,92],
  [1,2,3,5,10,13,26,39,78],
  [1,2,3,5,10,13,26,52,53],
  [1,2,3,5,10,13,26,52,104],
  [1,2,3,5,10,15,25,50,75],
  [1,2,3,5,10,15,25,50,100],
  [1,2,3,5,10,15,30,45,90],
  [1,2,3,5,10,15,30,60,120],
  [1,2,3,5,10,20,40,41,81],
  [1,2,3,5,10,20,40,41,82],
  [1,2,3,5,10,20,40,43,83],
  [1,2,3,5,10,20,40,43,86],
  [1,2,3,5,10,20,40,80,85],
  [1,2,3,5,10,20,40,80,160],
  [1,2,3,6,9,18,27,54,108],
  [1,2,3,6,9,18,36,37,73],
  [1,2,3,6,9,18,36,37,74],
  [1,2,3,6,9,18,36,72,144],
  [1,2,3,6,12,24,48,49,97],
  [1,2,3,6,12,24,48,49,98],
  [1,2,3,6,12,24,48,51,99],
  [1,2,3,6,12,24,48,51,102],
  [1,2,3,6,12,24,48,96,192],
  [1,2,4,8,16,17,33,66,67],
  [1,2,4,8,16,17,33,66,132],
  [1,2,4,8,16,17,34,68,136],
  [1,2,4,8,16,32,64,65,129],
  [1,2,4,8,16,32,64,65,130],
  [1,2,4,8,16,32,64,128,256],
  [1,2,3,5,7,14,19,38,57,71],
  [1,2,3,5,7,14,19,38,57,95],
  [1,2,3,5,7,14,19,38,57,114],
  [1,2,3,5,7,14,19,38,76,77],
  [1,2,3,5,7,14,19,38,76,79],
  [1,2,3,5,7,14,19,38,76,152],
  [1,2,3,5,7,14,21,35,70,91],
  [1,2,3,5,7,14,21,35,70,105],
  [1,2,3,5,7,14,21,35,70,140],
  [1,2,3,5,7,14,21,42,47,89],
  [1,2,3,5,7,14,21,42,47,94],
  [1,2,3,5,7,14,21,42,63,126],
  [1,2,3,5,7,14,21,42,84,87],
  [1,2,3,5,7,14,21,42,84,168],
  [1,2,3,5,7,14,28,29,58,116],
  [1,2,3,5,7,14,28,31,59,118],
  [1,2,3,5,7,14,28,31,62,93],
  [1,2,3,5,7,14,28,31,62,124],
  [1,2,3,5,7,14,28,56,61,117],
  [1,2,3,5,7,14,28,56,61,122],
  [1,2,3,5,7,14,28,56,112,113],
  [1,2,3,5,7,14,28,56,112,115],
  [1,2,3,5,7,14,28,56,112,119],
  [1,2,3,5,7,14,28,56,112,224],
  [1,2,3,5,10,11,22,44,55,110],
  [1,2,3,5,10,11,22,44,88,176],
  [1,2,3,5,10,13,23,46,69,138],
  [1,2,3,5,10,13,23,46,92,184],
  [1,2,3,5,10,13,26,39,78,156],
  [1,2,3,5,10,13,26,52,53,106],
  [1,2,3,5,10,13,26,52,104,107],
  [1,2,3,5,10,13,26,52,104,109],
  [1,2,3,5,10,13,26,52,104,208],
  [1,2,3,5,10,15,25,50,75,125],
  [1,2,3,5,10,15,25,50,75,150],
  [1,2,3,5,10,15,25,50,100,101],
  [1,2,3,5,10,15,25,50,100,103],
  [1,2,3,5,10,15,25,50,100,200],
  [1,2,3,5,10,15,30,45,90,135],
  [1,2,3,5,10,15,30,45,90,180],
  [1,2,3,5,10,15,30,60,120,121],
  [1,2,3,5,10,15,30,60,120,123],
  [1,2,3,5,10,15,30,60,120,240],
  [1,2,3,5,10,20,40,41,81,162],
  [1,2,3,5,10,20,40,41,82,164],
  [1,2,3,5,10,20,40,43,83,166],
  [1,2,3,5,10,20,40,43,86,172],
  [1,2,3,5,10,20,40,80,85,165],
  [1,2,3,5,10,20,40,80,85,170],
  [1,2,3,5,10,20,40,80,160,161],
  [1,2,3,5,10,20,40,80,160,163],
  [1,2,3,5,10,20,40,80,160,320],
  [1,2,3,6,9,18,27,54,108,111],
  [1,2,3,6,9,18,27,54,108,216],
  [1,2,3,6,9,18,36,37,73,146],
  [1,2,3,6,9,18,36,37,74,148],
  [1,2,3,6,9,18,36,72,144,145],
  [1,2,3,6,9,18,36,72,144,147],
  [1,2,3,6,9,18,36,72,144,153],
  [1,2,3,6,9,18,36,72,144,288],
  [1,2,3,6,12,24,48,49,97,194],
  [1,2,3,6,12,24,48,49,98,196],
  [1,2,3,6,12,24,48,51,99,198],
  [1,2,3,6,12,24,48,51,102,204],
  [1,2,3,6,12,24,48,96,192,193],
  [1,2,3,6,12,24,48,96,192,195],
  [1,2,3,6,12,24,48,96,192,384],
  [1,2,4,8,16,17,33,66,67,133],
  [1,2,4,8,16,17,33,66,67,134],
  [1,2,4,8,16,17,33,66,132,149],
  [1,2,4,8,16,17,33,66,132,264],
  [1,2,4,8,16,17,34,68,136,137],
  [1,2,4,8,16,17,34,68,136,272],
  [1,2,4,8,16,32,64,65,129,131],
  [1,2,4,8,16,32,64,65,129,258],
  [1,2,4,8,16,32,64,65,130,260],
  [1,2,4,8,16,32,64,128,256,257],
  [1,2,3,5,7,14,19,38,57,71,142],
  [1,2,3,5,7,14,19,38,57,95,190],
  [1,2,3,5,7,14,19,38,57,114,171],
  [1,2,3,5,7,14,19,38,57,114,228],
  [1,2,3,5,7,14,19,38,76,77,154],
  [1,2,3,5,7,14,19,38,76,79,155],
  [1,2,3,5,7,14,19,38,76,79,158],
  [1,2,3,5,7,14,19,38,76,152,157],
  [1,2,3,5,7,14,19,38,76,152,159],
  [1,2,3,5,7,14,19,38,76,152,304],
  [1,2,3,5,7,14,21,35,70,91,182],
  [1,2,3,5,7,14,21,35,70,105,175],
  [1,2,3,5,7,14,21,35,70,105,210],
  [1,2,3,5,7,14,21,35,70,140,141],
  [1,2,3,5,7,14,21,35,70,140,143],
  [1,2,3,5,7,14,21,35,70,140,280],
  [1,2,3,5,7,14,21,42,47,89,178],
  [1,2,3,5,7,14,21,42,47,94,188],
  [1,2,3,5,7,14,21,42,63,126,127],
  [1,2,3,5,7,14,21,42,63,126,189],
  [1,2,3,5,7,14,21,42,63,126,252],
  [1,2,3,5,7,14,21,42,84,87,174],
  [1,2,3,5,7,14,21,42,84,168,169],
  [1,2,3,5,7,14,21,42,84,168,173],
  [1,2,3,5,7,14,21,42,84,168,336],
  [1,2,3,5,7,14,28,29,58,116,232],
  [1,2,3,5,7,14,28,31,59,118,177],
  [1,2,3,5,7,14,28,31,59,118,236],
  [1,2,3,5,7,14,28,31,62,93,186],
  [1,2,3,5,7,14,28,31,62,124,248],
  [1,2,3,5,7,14,28,56,61,117,234],
  [1,2,3,5,7,14,28,56,61,122,183],
  [1,2,3,5,7,14,28,56,61,122,244],
  [1,2,3,5,7,14,28,56,112,113,225],
  [1,2,3,5,7,14,28,56,112,113,226],
  [1,2,3,5,7,14,28,56,112,115,227],
  [1,2,3,5,7,14,28,56,112,115,230],
  [1,2,3,5,7,14,28,56,112,119,231],
  [1,2,3,5,7,14,28,56,112,119,238],
  [1,2,3,5,7,14,28,56,112,224,229],
  [1,2,3,5,10,11,22,44,55,110,220],
  [1,2,3,5,10,11,22,44,88,176,179],
  [1,2,3,5,10,11,22,44,88,176,181],
  [1,2,3,5,10,11,22,44,88,176,187],
  [1,2,3,5,10,11,22,44,88,176,352],
  [1,2,3,5,10,13,23,46,69,138,139],
  [1,2,3,5,10,13,23,46,69,138,151],
  [1,2,3,5,10,13,23,46,69,138,207],
  [1,2,3,5,10,13,23,46,69,138,276],
  [1,2,3,5,10,13,23,46,92,184,185],
  [1,2,3,5,10,13,23,46,92,184,197],
  [1,2,3,5,10,13,23,46,92,184,368],
  [1,2,3,5,10,13,26,39,78,156,312],
  [1,2,3,5,10,13,26,52,53,106,212],
  [1,2,3,5,10,13,26,52,104,107,211],
  [1,2,3,5,10,13,26,52,104,107,214],
  [1,2,3,5,10,13,26,52,104,109,213],
  [1,2,3,5,10,13,26,52,104,109,218],
  [1,2,3,5,10,13,26,52,104,208,209],
  [1,2,3,5,10,13,26,52,104,208,221],
  [1,2,3,5,10,15,25,50,75,125,250],
  [1,2,3,5,10,15,25,50,75,150,300],
  [1,2,3,5,10,15,25,50,100,101,201],
  [1,2,3,5,10,15,25,50,100,101,202],
  [1,2,3,5,10,15,25,50,100,103,203],
  [1,2,3,5,10,15,25,50,100,103,206],
  [1,2,3,5,10,15,25,50,100,200,205],
  [1,2,3,5,10,15,25,50,100,200,215],
  [1,2,3,5,10,15,25,50,100,200,400],
  [1,2,3,5,10,15,30,45,90,135,270],
  [1,2,3,5,10,15,30,45,90,180,360],
  [1,2,3,5,10,15,30,60,120,121,241],
  [1,2,3,5,10,15,30,60,120,121,242],
  [1,2,3,5,10,15,30,60,120,123,243],
  [1,2,3,5,10,15,30,60,120,123,246],
  [1,2,3,5,10,15,30,60,120,240,245],
  [1,2,3,5,10,15,30,60,120,240,255],
  [1,2,3,5,10,20,40,41,81,162,167],
  [1,2,3,5,10,20,40,41,81,162,324],
  [1,2,3,5,10,20,40,41,82,164,328],
  [1,2,3,5,10,20,40,43,83,166,249],
  [1,2,3,5,10,20,40,43,83,166,332],
  [1,2,3,5,10,20,40,43,86,172,344],
  [1,2,3,5,10,20,40,80,85,165,330],
  [1,2,3,5,10,20,40,80,85,170,340],
  [1,2,3,5,10,20,40,80,160,161,321],
  [1,2,3,5,10,20,40,80,160,161,322],
  [1,2,3,5,10,20,40,80,160,163,323],
  [1,2,3,5,10,20,40,80,160,163,326],
  [1,2,3,5,10,20,40,80,160,320,325],
  [1,2,3,6,9,18,27,54,108,111,219],
  [1,2,3,6,9,18,27,54,108,111,222],
  [1,2,3,6,9,18,27,54,108,216,217],
  [1,2,3,6,9,18,36,37,73,146,292],
  [1,2,3,6,9,18,36,37,74,148,296],
  [1,2,3,6,9,18,36,72,144,145,289],
  [1,2,3,6,9,18,36,72,144,145,290],
  [1,2,3,6,9,18,36,72,144,147,291],
  [1,2,3,6,9,18,36,72,144,147,294],
  [1,2,3,6,9,18,36,72,144,153,297],
  [1,2,3,6,9,18,36,72,144,153,306],
  [1,2,3,6,12,24,48,49,97,194,388],
  [1,2,3,6,12,24,48,49,98,196,199],
  [1,2,3,6,12,24,48,49,98,196,392],
  [1,2,3,6,12,24,48,51,99,198,396],
  [1,2,3,6,12,24,48,96,192,193,385],
  [1,2,3,6,12,24,48,96,192,193,386],
  [1,2,3,6,12,24,48,96,192,195,387],
  [1,2,3,6,12,24,48,96,192,195,390],
  [1,2,4,8,16,17,33,66,67,133,266],
  [1,2,4,8,16,17,33,66,67,134,268],
  [1,2,4,8,16,17,33,66,132,149,281],
  [1,2,4,8,16,17,33,66,132,149,298],
  [1,2,4,8,16,17,33,66,132,264,265],
  [1,2,4,8,16,17,34,68,136,137,273],
  [1,2,4,8,16,17,34,68,136,137,274],
  [1,2,4,8,16,32,64,65,129,131,262],
  [1,2,4,8,16,32,64,65,129,258,259],
  [1,2,4,8,16,32,64,65,130,260,261],
  [1,2,3,5,7,14,19,38,57,71,142,284],
  [1,2,3,5,7,14,19,38,57,95,190,191],
  [1,2,3,5,7,14,19,38,57,95,190,247],
  [1,2,3,5,7,14,19,38,57,95,190,285],
  [1,2,3,5,7,14,19,38,57,95,190,380],
  [1,2,3,5,7,14,19,38,57,114,171,342],
  [1,2,3,5,7,14,19,38,57,114,228,233],
  [1,2,3,5,7,14,19,38,57,114,228,235],
  [1,2,3,5,7,14,19,38,76,77,154,308],
  [1,2,3,5,7,14,19,38,76,79,155,310],
  [1,2,3,5,7,14,19,38,76,79,158,237],
  [1,2,3,5,7,14,19,38,76,79,158,316],
  [1,2,3,5,7,14,19,38,76,152,157,309],
  [1,2,3,5,7,14,19,38,76,152,157,314],
  [1,2,3,5,7,14,19,38,76,152,159,311],
  [1,2,3,5,7,14,19,38,76,152,159,318],
  [1,2,3,5,7,14,19,38,76,152,304,305],
  [1,2,3,5,7,14,19,38,76,152,304,307],
  [1,2,3,5,7,14,21,35,70,91,182,364],
  [1,2,3,5,7,14,21,35,70,105,175,350],
  [1,2,3,5,7,14,21,35,70,105,210,315],
  [1,2,3,5,7,14,21,35,70,140,141,282],
  [1,2,3,5,7,14,21,35,70,140,143,283],
  [1,2,3,5,7,14,21,35,70,140,143,286],
  [1,2,3,5,7,14,21,35,70,140,280,287],
  [1,2,3,5,7,14,21,35,70,140,280,301],
  [1,2,3,5,7,14,21,42,47,89,178,267],
  [1,2,3,5,7,14,21,42,47,89,178,356],
  [1,2,3,5,7,14,21,42,47,94,188,376],
  [1,2,3,5,7,14,21,42,63,126,127,253],
  [1,2,3,5,7,14,21,42,63,126,127,254],
  [1,2,3,5,7,14,21,42,63,126,189,378],
  [1,2,3,5,7,14,21,42,84,87,174,348],
  [1,2,3,5,7,14,21,42,84,168,169,337],
  [1,2,3,5,7,14,21,42,84,168,169,338],
  [1,2,3,5,7,14,21,42,84,168,173,341],
  [1,2,3,5,7,14,21,42,84,168,173,346],
  [1,2,3,5,7,14,21,42,84,168,336,339],
  [1,2,3,5,7,14,21,42,84,168,336,343],
  [1,2,3,5,7,14,21,42,84,168,336,357],
  [1,2,3,5,7,14,28,29,58,116,232,239],
  [1,2,3,5,7,14,28,31,59,118,177,295],
  [1,2,3,5,7,14,28,31,59,118,177,354],
  [1,2,3,5,7,14,28,31,62,93,186,279],
  [1,2,3,5,7,14,28,31,62,93,186,372],
  [1,2,3,5,7,14,28,31,62,124,248,251],
  [1,2,3,5,7,14,28,56,61,117,234,351],
  [1,2,3,5,7,14,28,56,61,122,183,366],
  [1,2,3,5,7,14,28,56,112,115,230,345],
  [1,2,3,5,10,11,22,44,55,110,220,223],
  [1,2,3,5,10,11,22,44,55,110,220,275],
  [1,2,3,5,10,11,22,44,88,176,179,355],
  [1,2,3,5,10,11,22,44,88,176,179,358],
  [1,2,3,5,10,11,22,44,88,176,181,269],
  [1,2,3,5,10,11,22,44,88,176,181,362],
  [1,2,3,5,10,11,22,44,88,176,187,363],
  [1,2,3,5,10,11,22,44,88,176,187,374],
  [1,2,3,5,10,11,22,44,88,176,352,353],
  [1,2,3,5,10,13,23,46,69,138,139,277],
  [1,2,3,5,10,13,23,46,69,138,139,278],
  [1,2,3,5,10,13,23,46,69,138,151,302],
  [1,2,3,5,10,13,23,46,69,138,276,299],
  [1,2,3,5,10,13,23,46,92,184,185,369],
  [1,2,3,5,10,13,23,46,92,184,185,370],
  [1,2,3,5,10,13,23,46,92,184,197,381],
  [1,2,3,5,10,13,23,46,92,184,197,394],
  [1,2,3,5,10,13,23,46,92,184,368,371],
  [1,2,3,5,10,13,23,46,92,184,368,373],
  [1,2,3,5,10,13,23,46,92,184,368,391],
  [1,2,3,5,10,13,26,39,78,156,312,313],
  [1,2,3,5,10,13,26,39,78,156,312,317],
  [1,2,3,5,10,13,26,52,104,107,211,263],
  [1,2,3,5,10,13,26,52,104,109,218,327],
  [1,2,3,5,10,15,25,50,75,125,250,375],
  [1,2,3,5,10,15,25,50,75,150,300,303],
  [1,2,3,5,10,15,30,45,90,135,270,271],
  [1,2,3,5,10,15,30,45,90,180,360,361],
  [1,2,3,5,10,15,30,45,90,180,360,365],
  [1,2,3,5,10,20,40,41,81,162,167,329],
  [1,2,3,5,10,20,40,41,81,162,167,334],
  [1,2,3,5,10,20,40,41,82,164,328,331],
  [1,2,3,5,10,20,40,41,82,164,328,333],
  [1,2,3,5,10,20,40,43,83,166,332,335],
  [1,2,3,5,10,20,40,43,86,172,344,347],
  [1,2,3,5,10,20,40,43,86,172,344,349],
  [1,2,3,6,9,18,36,37,73,146,292,293],
  [1,2,3,6,12,24,48,49,97,194,388,389],
  [1,2,3,6,12,24,48,49,98,196,199,395],
  [1,2,3,6,12,24,48,49,98,196,199,398],
  [1,2,3,6,12,24,48,49,98,196,392,393],
  [1,2,3,6,12,24,48,51,99,198,396,397],
  [1,2,3,6,12,24,48,51,99,198,396,399],
  [1,2,3,5,7,14,19,38,57,95,190,191,382],
  [1,2,3,5,7,14,19,38,57,95,190,380,383],
  [1,2,3,5,7,14,19,38,76,79,158,316,319],
  [1,2,3,5,7,14,21,35,70,91,182,364,367],
  [1,2,3,5,7,14,21,42,47,89,178,356,359],
  [1,2,3,5,7,14,21,42,47,89,178,356,377],
  [1,2,3,5,7,14,21,42,47,94,188,376,379]]
theorem tS13 : stepsC 50 300 tL12 = some tL13 := by decide +kernel
def tL14 : List (List Nat) := [[1],
  [1,2],
  [1,2,3],
  [1,2,4],
  [1,2,3,5],
  [1,2,3,6],
  [1,2,4,8],
  [1,2,3,5,7],
  [1,2,3,5,10],
  [1,2,3,6,9],
  [1,2,3,6,12],
  [1,2,4,8,16],
  [1,2,3,5,7,14],
  [1,2,3,5,10,11],
  [1,2,3,5,10,13],
  [1,2,3,5,10,15],
  [1,2,3,5,10,20],
  [1,2,3,6,9,18],
  [1,2,3,6,12,24],
  [1,2,4,8,16,17],
  [1,2,4,8,16,32],
  [1,2,3,5,7,14,19],
  [1,2,3,5,7,14,21],
  [1,2,3,5,7,14,28],
  [1,2,3,5,10,11,22],
  [1,2,3,5,10,13,23],
  [1,2,3,5,10,13,26],
  [1,2,3,5,10,15,25],
  [1,2,3,5,10,15,30],
  [1,2,3,5,10,20,40],
  [1,2,3,6,9,18,27],
  [1,2,3,6,9,18,36],
  [1,2,3,6,12,24,48],
  [1,2,4,8,16,17,33],
  [1,2,4,8,16,17,34],
  [1,2,4,8,16,32,64],
  [1,2,3,5,7,14,19,38],
  [1,2,3,5,7,14,21,35],
  [1,2,3,5,7,14,21,42],
  [1,2,3,5,7,14,28,29],
  [1,2,3,5,7,14,28,31],
  [1,2,3,5,7,14,28,56],
  [1,2,3,5,10,11,22,44],
  [1,2,3,5,10,13,23,46],
  [1,2,3,5,10,13,26,39],
  [1,2,3,5,10,13,26,52],
  [1,2,3,5,10,15,25,50],
  [1,2,3,5,10,15,30,45],
  [1,2,3,5,10,15,30,60],
  [1,2,3,5,10,20,40,41],
  [1,2,3,5,10,20,40,43],
  [1,2,3,5,10,20,40,80],
  [1,2,3,6,9,18,27,54],
  [1,2,3,6,9,18,36,37],
  [1,2,3,6,9,18,36,72],
  [1,2,3,6,12,24,48,49],
  [1,2,3,6,12,24,48,51],
  [1,2,3,6,12,24,48,96],
  [1,2,4,8,16,17,33,66],
  [1,2,4,8,16,17,34,68],
  [1,2,4,8,16,32,64,65],
  [1,2,4,8,16,32,64,128],
  [1,2,3,5,7,14,19,38,57],
  [1,2,3,5,7,14,19,38,76],
  [1,2,3,5,7,14,21,35,70],
  [1,2,3,5,7,14,21,42,47],
  [1,2,3,5,7,14,21,42,63],
  [1,2,3,5,7,14,21,42,84],
  [1,2,3,5,7,14,28,29,58],
  [1,2,3,5,7,14,28,31,59],
  [1,2,3,5,7,14,28,31,62],
  [1,2,3,5,7,14,28,56,61],
  [1,2,3,5,7,14,28,56,112],
  [1,2,3,5,10,11,22,44,55],
  [1,2,3,5,10,11,22,44,88],
  [1,2,3,5,10,13,23,46,69],
  [1,2,3,5,10,13,23,46,92],
  [1,2,3,5,10,13,26,39,78],
  [1,2,3,5,10,13,26,52,53],
  [1,2,3,5,10,13,26,52,104],
  [1,2,3,5,10,15,25,50,75],
  [1,2,3,5,10,15,25,50,100],
  [1,2,3,5,10,15,30,45,90],
  [1,2,3,5,10,15,30,60,120],
  [1,2,3,5,10,20,40,41,81],
  [1,2,3,5,10,20,40,41,82],
  [1,2,3,5,10,20,40,43,83],
  [1,2,3,5,10,20,40,43,86],
  [1,2,3,5,10,20,40,80,85],
  [1,2,3,5,10,20,40,80,160],
  [1,2,3,6,9,18,27,54,108],
  [1,2,3,6,9,18,36,37,73],
  [1,2,3,6,9,18,36,37,74],
  [1,2,3,6,9,18,36,72,144],
  [1,2,3,6,12,24,48,49,97],
  [1,2,3,6,12,24,48,49,98],
  [1,2,3,6,12,24,48,51,99],
  [1,2,3,6,12,24,48,51,102],
  [1,2,3,6,12,24,48,96,192],
  [1,2,4,8,16,17,33,66,67],
  [1,2,4,8,16,17,33,66,132],
  [1,2,4,8,16,17,34,68,136],
  [1,2,4,8,16,32,64,65,129],
  [1,2,4,8,16,32,64,65,130],
  [1,2,4,8,16,32,64,128,256],
  [1,2,3,5,7,14,19,38,57,71],
  [1,2,3,5,7,14,19,38,57,95],
  [1,2,3,5,7,14,19,38,57,114],
  [1,2,3,5,7,14,19,38,76,77],
  [1,2,3,5,7,14,19,38,76,79],
  [1,2,3,5,7,14,19,38,76,152],
  [1,2,3,5,7,14,21,35,70,91],
  [1,2,3,5,7,14,21,35,70,105],
  [1,2,3,5,7,14,21,35,70,140],
  [1,2,3,5,7,14,21,42,47,89],
  [1,2,3,5,7,14,21,42,47,94],
  [1,2,3,5,7,14,21,42,63,126],
  [1,2,3,5,7,14,21,42,84,87],
  [1,2,3,5,7,14,21,42,84,168],
  [1,2,3,5,7,14,28,29,58,116],
  [1,2,3,5,7,14,28,31,59,118],
  [1,2,3,5,7,14,28,31,62,93],
  [1,2,3,5,7,14,28,31,62,124],
  [1,2,3,5,7,14,28,56,61,117],
  [1,2,3,5,7,14,28,56,61,122],
  [1,2,3,5,7,14,28,56,112,113],
  [1,2,3,5,7,14,28,56,112,115],
  [1,2,3,5,7,14,28,56,112,119],
  [1,2,3,5,7,14,28,56,112,224],
  [1,2,3,5,10,11,22,44,55,110],
  [1,2,3,5,10,11,22,44,88,176],
  [1,2,3,5,10,13,23,46,69,138],
  [1,2,3,5,10,13,23,46,92,184],
  [1,2,3,5,10,13,26,39,78,156],
  [1,2,3,5,10,13,26,52,53,106],
  [1,2,3,5,10,13,26,52,104,107],
  [1,2,3,5,10,13,26,52,104,109],
  [1,2,3,5,10,13,26,52,104,208],
  [1,2,3,5,10,15,25,50,75,125],
  [1,2,3,5,10,15,25,50,75,150],
  [1,2,3,5,10,15,25,50,100,101],
  [1,2,3,5,10,15,25,50,100,103],
  [1,2,3,5,10,15,25,50,100,200],
  [1,2,3,5,10,15,30,45,90,135],
  [1,2,3,5,10,15,30,45,90,180],
  [1,2,3,5,10,15,30,60,120,121],
  [1,2,3,5,10,15,30,60,120,123],
  [1,2,3,5,10,15,30,60,120,240],
  [1,2,3,5,10,20,40,41,81,162],
  [1,2,3,5,10,20,40,41,82,164],
  [1,2,3,5,10,20,40,43,83,166],
  [1,2,3,5,10,20,40,43,86,172],
  [1,2,3,5,10,20,40,80,85,165],
  [1,2,3,5,10,20,40,80,85,170],
  [1,2,3,5,10,20,40,80,160,161],
  [1,2,3,5,10,20,40,80,160,163],
  [1,2,3,5,10,20,40,80,160,320],
  [1,2,3,6,9,18,27,54,108,111],
  [1,2,3,6,9,18,27,54,108,216],
  [1,2,3,6,9,18,36,37,73,146],
  [1,2,3,6,9,18,36,37,74,148],
  [1,2,3,6,9,18,36,72,144,145],
  [1,2,3,6,9,18,36,72,144,147],
  [1,2,3,6,9,18,36,72,144,153],
  [1,2,3,6,9,18,36,72,144,288],
  [1,2,3,6,12,24,48,49,97,194],
  [1,2,3,6,12,24,48,49,98,196],
  [1,2,3,6,12,24,48,51,99,198],
  [1,2,3,6,12,24,48,51,102,204],
  [1,2,3,6,12,24,48,96,192,193],
  [1,2,3,6,12,24,48,96,192,195],
  [1,2,3,6,12,24,48,96,192,384],
  [1,2,4,8,16,17,33,66,67,133],
  [1,2,4,8,16,17,33,66,67,134],
  [1,2,4,8,16,17,33,66,132,149],
  [1,2,4,8,16,17,33,66,132,264],
  [1,2,4,8,16,17,34,68,136,137],
  [1,2,4,8,16,17,34,68,136,272],
  [1,2,4,8,16,32,64,65,129,131],
  [1,2,4,8,16,32,64,65,129,258],
  [1,2,4,8,16,32,64,65,130,260],
  [1,2,4,8,16,32,64,128,256,257],
  [1,2,3,5,7,14,19,38,57,71,142],
  [1,2,3,5,7,14,19,38,57,95,190],
  [1,2,3,5,7,14,19,38,57,114,171],
  [1,2,3,5,7,14,19,38,57,114,228],
  [1,2,3,5,7,14,19,38,76,77,154],
  [1,2,3,5,7,14,19,38,76,79,155],
  [1,2,3,5,7,14,19,38,76,79,158],
  [1,2,3,5,7,14,19,38,76,152,157],
  [1,2,3,5,7,14,19,38,76,152,159],
  [1,2,3,5,7,14,19,38,76,152,304],
  [1,2,3,5,7,14,21,35,70,91,182],
  [1,2,3,5,7,14,21,35,70,105,175],
  [1,2,3,5,7,14,21,35,70,105,210],
  [1,2,3,5,7,14,21,35,70,140,141],
  [1,2,3,5,7,14,21,35,70,140,143],
  [1,2,3,5,7,14,21,35,70,140,280],
  [1,2,3,5,7,14,21,42,47,89,178],
  [1,2,3,5,7,14,21,42,47,94,188],
  [1,2,3,5,7,14,21,42,63,126,127],
  [1,2,3,5,7,14,21,42,63,126,189],
  [1,2,3,5,7,14,21,42,63,126,252],
  [1,2,3,5,7,14,21,42,84,87,174],
  [1,2,3,5,7,14,21,42,84,168,169],
  [1,2,3,5,7,14,21,42,84,168,173],
  [1,2,3,5,7,14,21,42,84,168,336],
  [1,2,3,5,7,14,28,29,58,116,232],
  [1,2,3,5,7,14,28,31,59,118,177],
  [1,2,3,5,7,14,28,31,59,118,236],
  [1,2,3,5,7,14,28,31,62,93,186],
  [1,2,3,5,7,14,28,31,62,124,248],
  [1,2,3,5,7,14,28,56,61,117,234],
  [1,2,3,5,7,14,28,56,61,122,183],
  [1,2,3,5,7,14,28,56,61,122,244],
  [1,2,3,5,7,14,28,56,112,113,225],
  [1,2,3,5,7,14,28,56,112,113,226],
  [1,2,3,5,7,14,28,56,112,115,227],
  [1,2,3,5,7,14,28,56,112,115,230],
  [1,2,3,5,7,14,28,56,112,119,231],
  [1,2,3,5,7,14,28,56,112,119,238],
  [1,2,3,5,7,14,28,56,112,224,229],
  [1,2,3,5,10,11,22,44,55,110,220],
  [1,2,3,5,10,11,22,44,88,176,179],
  [1,2,3,5,10,11,22,44,88,176,181],
  [1,2,3,5,10,11,22,44,88,176,187],
  [1,2,3,5,10,11,22,44,88,176,352],
  [1,2,3,5,10,13,23,46,69,138,139],
  [1,2,3,5,10,13,23,46,69,138,151],
  [1,2,3,5,10,13,23,46,69,138,207],
  [1,2,3,5,10,13,23,46,69,138,276],
  [1,2,3,5,10,13,23,46,92,184,185],
  [1,2,3,5,10,13,23,46,92,184,197],
  [1,2,3,5,10,13,23,46,92,184,368],
  [1,2,3,5,10,13,26,39,78,156,312],
  [1,2,3,5,10,13,26,52,53,106,212],
  [1,2,3,5,10,13,26,52,104,107,211],
  [1,2,3,5,10,13,26,52,104,107,214],
  [1,2,3,5,10,13,26,52,104,109,213],
  [1,2,3,5,10,13,26,52,104,109,218],
  [1,2,3,5,10,13,26,52,104,208,209],
  [1,2,3,5,10,13,26,52,104,208,221],
  [1,2,3,5,10,15,25,50,75,125,250],
  [1,2,3,5,10,15,25,50,75,150,300],
  [1,2,3,5,10,15,25,50,100,101,201],
  [1,2,3,5,10,15,25,50,100,101,202],
  [1,2,3,5,10,15,25,50,100,103,203],
  [1,2,3,5,10,15,25,50,100,103,206],
  [1,2,3,5,10,15,25,50,100,200,205],
  [1,2,3,5,10,15,25,50,100,200,215],
  [1,2,3,5,10,15,25,50,100,200,400],
  [1,2,3,5,10,15,30,45,90,135,270],
  [1,2,3,5,10,15,30,45,90,180,360],
  [1,2,3,5,10,15,30,60,120,121,241],
  [1,2,3,5,10,15,30,60,120,121,242],
  [1,2,3,5,10,15,30,60,120,123,243],
  [1,2,3,5,10,15,30,60,120,123,246],
  [1,2,3,5,10,15,30,60,120,240,245],
  [1,2,3,5,10,15,30,60,120,240,255],
  [1,2,3,5,10,20,40,41,81,162,167],
  [1,2,3,5,10,20,40,41,81,162,324],
  [1,2,3,5,10,20,40,41,82,164,328],
  [1,2,3,5,10,20,40,43,83,166,249],
  [1,2,3,5,10,20,40,43,83,166,332],
  [1,2,3,5,10,20,40,43,86,172,344],
  [1,2,3,5,10,20,40,80,85,165,330],
  [1,2,3,5,10,20,40,80,85,170,340],
  [1,2,3,5,10,20,40,80,160,161,321],
  [1,2,3,5,10,20,40,80,160,161,322],
  [1,2,3,5,10,20,40,80,160,163,323],
  [1,2,3,5,10,20,40,80,160,163,326],
  [1,2,3,5,10,20,40,80,160,320,325],
  [1,2,3,6,9,18,27,54,108,111,219],
  [1,2,3,6,9,18,27,54,108,111,222],
  [1,2,3,6,9,18,27,54,108,216,217],
  [1,2,3,6,9,18,36,37,73,146,292],
  [1,2,3,6,9,18,36,37,74,148,296],
  [1,2,3,6,9,18,36,72,144,145,289],
  [1,2,3,6,9,18,36,72,144,145,290],
  [1,2,3,6,9,18,36,72,144,147,291],
  [1,2,3,6,9,18,36,72,144,147,294],
  [1,2,3,6,9,18,36,72,144,153,297],
  [1,2,3,6,9,18,36,72,144,153,306],
  [1,2,3,6,12,24,48,49,97,194,388],
  [1,2,3,6,12,24,48,49,98,196,199],
  [1,2,3,6,12,24,48,49,98,196,392],
  [1,2,3,6,12,24,48,51,99,198,396],
  [1,2,3,6,12,24,48,96,192,193,385],
  [1,2,3,6,12,24,48,96,192,193,386],
  [1,2,3,6,12,24,48,96,192,195,387],
  [1,2,3,6,12,24,48,96,192,195,390],
  [1,2,4,8,16,17,33,66,67,133,266],
  [1,2,4,8,16,17,33,66,67,134,268],
  [1,2,4,8,16,17,33,66,132,149,281],
  [1,2,4,8,16,17,33,66,132,149,298],
  [1,2,4,8,16,17,33,66,132,264,265],
  [1,2,4,8,16,17,34,68,136,137,273],
  [1,2,4,8,16,17,34,68,136,137,274],
  [1,2,4,8,16,32,64,65,129,131,262],
  [1,2,4,8,16,32,64,65,129,258,259],
  [1,2,4,8,16,32,64,65,130,260,261],
  [1,2,3,5,7,14,19,38,57,71,142,284],
  [1,2,3,5,7,14,19,38,57,95,190,191],
  [1,2,3,5,7,14,19,38,57,95,190,247],
  [1,2,3,5,7,14,19,38,57,95,190,285],
  [1,2,3,5,7,14,19,38,57,95,190,380],
  [1,2,3,5,7,14,19,38,57,114,171,342],
  [1,2,3,5,7,14,19,38,57,114,228,233],
  [1,2,3,5,7,14,19,38,57,114,228,235],
  [1,2,3,5,7,14,19,38,76,77,154,308],
  [1,2,3,5,7,14,19,38,76,79,155,310],
  [1,2,3,5,7,14,19,38,76,79,158,237],
  [1,2,3,5,7,14,19,38,76,79,158,316],
  [1,2,3,5,7,14,19,38,76,152,157,309],
  [1,2,3,5,7,14,19,38,76,152,157,314],
  [1,2,3,5,7,14,19,38,76,152,159,311],
  [1,2,3,5,7,14,19,38,76,152,159,318],
  [1,2,3,5,7,14,19,38,76,152,304,305],
  [1,2,3,5,7,14,19,38,76,152,304,307],
  [1,2,3,5,7,14,21,35,70,91,182,364],
  [1,2,3,5,7,14,21,35,70,105,175,350],
  [1,2,3,5,7,14,21,35,70,105,210,315],
  [1,2,3,5,7,14,21,35,70,140,141,282],
  [1,2,3,5,7,14,21,35,70,140,143,283],
  [1,2,3,5,7,14,21,35,70,140,143,286],
  [1,2,3,5,7,14,21,35,70,140,280,287],
  [1,2,3,5,7,14,21,35,70,140,280,301],
  [1,2,3,5,7,14,21,42,47,89,178,267],
  [1,2,3,5,7,14,21,42,47,89,178,356],
  [1,2,3,5,7,14,21,42,47,94,188,376],
  [1,2,3,5,7,14,21,42,63,126,127,253],
  [1,2,3,5,7,14,21,42,63,126,127,254],
  [1,2,3,5,7,14,21,42,63,126,189,378],
  [1,2,3,5,7,14,21,42,84,87,174,348],
  [1,2,3,5,7,14,21,42,84,168,169,337],
  [1,2,3,5,7,14,21,42,84,168,169,338],
  [1,2,3,5,7,14,21,42,84,168,173,341],
  [1,2,3,5,7,14,21,42,84,168,173,346],
  [1,2,3,5,7,14,21,42,84,168,336,339],
  [1,2,3,5,7,14,21,42,84,168,336,343],
  [1,2,3,5,7,14,21,42,84,168,336,357],
  [1,2,3,5,7,14,28,29,58,116,232,239],
  [1,2,3,5,7,14,28,31,59,118,177,295],
  [1,2,3,5,7,14,28,31,59,118,177,354],
  [1,2,3,5,7,14,28,31,62,93,186,279],
  [1,2,3,5,7,14,28,31,62,93,186,372],
  [1,2,3,5,7,14,28,31,62,124,248,251],
  [1,2,3,5,7,14,28,56,61,117,234,351],
  [1,2,3,5,7,14,28,56,61,122,183,366],
  [1,2,3,5,7,14,28,56,112,115,230,345],
  [1,2,3,5,10,11,22,44,55,110,220,223],
  [1,2,3,5,10,11,22,44,55,110,220,275],
  [1,2,3,5,10,11,22,44,88,176,179,355],
  [1,2,3,5,10,11,22,44,88,176,179,358],
  [1,2,3,5,10,11,22,44,88,176,181,269],
  [1,2,3,5,10,11,22,44,88,176,181,362],
  [1,2,3,5,10,11,22,44,88,176,187,363],
  [1,2,3,5,10,11,22,44,88,176,187,374],
  [1,2,3,5,10,11,22,44,88,176,352,353],
  [1,2,3,5,10,13,23,46,69,138,139,277],
  [1,2,3,5,10,13,23,46,69,138,139,278],
  [1,2,3,5,10,13,23,46,69,138,151,302],
  [1,2,3,5,10,13,23,46,69,138,276,299],
  [1,2,3,5,10,13,23,46,92,184,185,369],
  [1,2,3,5,10,13,23,46,92,184,185,370],
  [1,2,3,5,10,13,23,46,92,184,197,381],
  [1,2,3,5,10,13,23,46,92,184,197,394],
  [1,2,3,5,10,13,23,46,92,184,368,371],
  [1,2,3,5,10,13,23,46,92,184,368,373],
  [1,2,3,5,10,13,23,46,92,184,368,391],
  [1,2,3,5,10,13,26,39,78,156,312,313],
  [1,2,3,5,10,13,26,39,78,156,312,317],
  [1,2,3,5,10,13,26,52,104,107,211,263],
  [1,2,3,5,10,13,26,52,104,109,218,327],
  [1,2,3,5,10,15,25,50,75,125,250,375],
  [1,2,3,5,10,15,25,50,75,150,300,303],
  [1,2,3,5,10,15,30,45,90,135,270,271],
  [1,2,3,5,10,15,30,45,90,180,360,361],
  [1,2,3,5,10,15,30,45,90,180,360,365],
  [1,2,3,5,10,20,40,41,81,162,167,329],
  [1,2,3,5,10,20,40,41,81,162,167,334],
  [1,2,3,5,10,20,40,41,82,164,328,331],
  [1,2,3,5,10,20,40,41,82,164,328,333],
  [1,2,3,5,10,20,40,43,83,166,332,335],
  [1,2,3,5,10,20,40,43,86,172,344,347],
  [1,2,3,5,10,20,40,43,86,172,344,349],
  [1,2,3,6,9,18,36,37,73,146,292,293],
  [1,2,3,6,12,24,48,49,97,194,388,389],
  [1,2,3,6,12,24,48,49,98,196,199,395],
  [1,2,3,6,12,24,48,49,98,196,199,398],
  [1,2,3,6,12,24,48,49,98,196,392,393],
  [1,2,3,6,12,24,48,51,99,198,396,397],
  [1,2,3,6,12,24,48,51,99,198,396,399],
  [1,2,3,5,7,14,19,38,57,95,190,191,382],
  [1,2,3,5,7,14,19,38,57,95,190,380,383],
  [1,2,3,5,7,14,19,38,76,79,158,316,319],
  [1,2,3,5,7,14,21,35,70,91,182,364,367],
  [1,2,3,5,7,14,21,42,47,89,178,356,359],
  [1,2,3,5,7,14,21,42,47,89,178,356,377],
  [1,2,3,5,7,14,21,42,47,94,188,376,379]]
theorem tS14 : stepsC 50 350 tL13 = some tL14 := by decide +kernel
theorem treeT_eq : treeT = tL14 := by
  unfold treeT
  rw [show 400 = 395 + 5 from rfl, stepsC_run 5 395 0 _ _ tS1]
  rw [show 395 = 388 + 7 from rfl, stepsC_run 7 388 5 _ _ tS2]
  rw [show 388 = 375 + 13 from rfl, stepsC_run 13 375 12 _ _ tS3]
  rw [show 375 = 355 + 20 from rfl, stepsC_run 20 355 25 _ _ tS4]
  rw [show 355 = 330 + 25 from rfl, stepsC_run 25 330 45 _ _ tS5]
  rw [show 330 = 300 + 30 from rfl, stepsC_run 30 300 70 _ _ tS6]
  rw [show 300 = 270 + 30 from rfl, stepsC_run 30 270 100 _ _ tS7]
  rw [show 270 = 240 + 30 from rfl, stepsC_run 30 240 130 _ _ tS8]
  rw [show 240 = 210 + 30 from rfl, stepsC_run 30 210 160 _ _ tS9]
  rw [show 210 = 180 + 30 from rfl, stepsC_run 30 180 190 _ _ tS10]
  rw [show 180 = 140 + 40 from rfl, stepsC_run 40 140 220 _ _ tS11]
  rw [show 140 = 100 + 40 from rfl, stepsC_run 40 100 260 _ _ tS12]
  rw [show 100 = 50 + 50 from rfl, stepsC_run 50 50 300 _ _ tS13]
  rw [show 50 = 0 + 50 from rfl, stepsC_run 50 0 350 _ _ tS14]
  rfl
theorem tree_ok : treeOk tL14 = true := by decide +kernel
theorem levs_ok : levsOk tL14 9 0 (grK 0) = true := by decide +kernel
end Go.Proofs.Ytbbjgcagkmlngab
/- Slices of integers that are cut at the head and appended to, in own blocks; rows that lie apart. -/
namespace Go.Proofs.Ytbbjgcagkmlngab
open Go.RowKit

/-- A slice of integers anywhere in an own block. -/
def QI (w : World) (B g off n cap : Nat) (l : List Int) : Prop :=
  l.length = n ∧ n ≤ cap ∧ B ≤ g ∧ ∃ cur : Array Value, w.heap[g]? = some (.cells cur 3 (0, 0)) ∧ off + cap ≤ cur.size ∧ ∀ j, j < n → cur[off + j]? = some (I (l.getD j 0))
section
variable {w w' : World} {B B' g off n cap : Nat} {l : List Int}
theorem QI.lt (h : QI w B g off n cap l) : g < w.heap.size := by
  obtain ⟨_, _, _, cur, hg, _⟩ := h
  exact (Array.getElem?_eq_some_iff.1 hg).1
theorem QI.at (h : QI w B g off n cap l) {j : Nat} (hj : j < n) : w.cell? ⟨g, off + j, none⟩ = some (I (l.getD j 0)) := by
  obtain ⟨_, _, _, cur, hg, _, hc⟩ := h
  rw [cell_of_row w g _ cur _ _ hg]
  exact hc j hj
theorem QI.keep (h : QI w B g off n cap l) (hk : w'.heap[g]? = w.heap[g]?) : QI w' B g off n cap l := by
  obtain ⟨h1, h2, h3, cur, hg, h4⟩ := h
  exact ⟨h1, h2, h3, cur, hk.trans hg, h4⟩
theorem QI.below (h : QI w B g off n cap l) (hb : Below w.heap.size w w') : QI w' B g off n cap l := h.keep (hb.block g h.lt)
theorem QI.grown {row : Option Nat} (h : QI w B g off n cap l) (hg : w.grownBy w' row) (hne : row ≠ some g) : QI w' B g off n cap l := h.keep (hg.block g h.lt (Ne.symm hne))
theorem QI.tail {x : Int} (h : QI w B g off (n + 1) cap (x :: l)) : (2 ≤ cap → QI w B g (off + 1) n (cap - 1) l) ∧ (cap = 1 → n = 0 ∧ l = [] ∧ QI w B g off 0 0 []) := by
  obtain ⟨h1, h2, h3, cur, hg, h4, h5⟩ := h
  refine ⟨fun _ => ⟨by simpa using h1, by omega, h3, cur, hg, by omega, fun j hj => ?_⟩, fun hc => ?_⟩
  · have := h5 (j + 1) (by omega)
    rw [show off + (j + 1) = off + 1 + j by omega] at this
    simpa using this
  · have hn : n = 0 := by omega
    subst hn
    exact ⟨rfl, by simpa using h1, rfl, by omega, h3, cur, hg, by omega, fun j hj => absurd hj (by omega)⟩
theorem QI.of_own {v : Value} (h : w.ownsRow B 3 1 v n (l.map I)) (hn : 0 < n) : ∃ g cap, v = .slice (some ⟨g, 0, none⟩) n cap ∧ QI w B g 0 n cap l := by
  rcases h.2 with ⟨_, h0⟩ | ⟨g, cap, cur, hv, hb, hg, hnc, _, hcs, htake⟩
  · omega
  · have hl : l.length = n := by have := h.1; simpa using this
    refine ⟨g, cap, hv, hl, hnc, hb, cur, hg, by omega, fun j hj => ?_⟩
    have e : (cur.toList.take (n * 1))[j]? = (l.map I)[j]? := by rw [htake]
    rw [List.getElem?_take_of_lt (by omega), List.getElem?_map, List.getElem?_eq_getElem (l := l) (by omega)] at e
    rw [Nat.zero_add, ← Array.getElem?_toList, e, List.getD_eq_getElem?_getD, List.getElem?_eq_getElem (l := l) (by omega)]
    rfl
theorem QI.store (h : QI w B g off n cap l) (hc : n + 1 ≤ cap) (u : Int) : QI (w.setCell ⟨g, off + n, none⟩ (I u)) B g off (n + 1) cap (l ++ [u]) := by
  obtain ⟨h1, h2, h3, cur, hg, h4, h5⟩ := h
  refine ⟨by simp [h1], hc, h3, _, heap_setCell_same w g (off + n) cur _ (I u) hg, by simpa using h4, fun j hj => ?_⟩
  rw [Array.getElem?_setIfInBounds]
  rcases Nat.lt_or_eq_of_le (Nat.lt_succ_iff.1 hj) with hlt | rfl
  · rw [if_neg (by omega), h5 j hlt, List.getD_eq_getElem?_getD, List.getD_eq_getElem?_getD, List.getElem?_append_left (by omega)]
  · rw [if_pos rfl, if_pos (by omega), List.getD_eq_getElem?_getD, ← h1, List.getElem?_concat_length]
    rfl
end

section
variable {ops : Array Oper} {o : Oper} {a : Act} {Q : Exit → Act → World → Prop} {w : World}
/-- append(v, x) of one integer onto such a slice. -/
theorem wpList_appQ {rest : List Oper} (hgd : o.guard = none) (s x : Operand)
    (ho : o.op = .call { callee := .builtin .append, args := #[s, x], argTypes := #[22, 22] })
    (B g off n cap : Nat) (l : List Int) (hs : a.eval s = .slice (some ⟨g, off, none⟩) n cap) (hq : QI w B g off n cap l) (b c : Nat) (u : Int) (hx : a.eval x = .slice (some ⟨b, 0, none⟩) 1 c)
    (hu : w.cell? ⟨b, 0, none⟩ = some (I u)) (hn : n ≤ 4000000) (hB : B ≤ w.heap.size)
    (h : ∀ g' off' cap' w', QI w' B g' off' (n + 1) cap' (l ++ [u]) → w.grownBy w' (some g) → Below B w w' → (g' = g ∨ w.heap.size ≤ g') → wpList Try.prog ops Q rest (a.put o.dst (.slice (some ⟨g', off', none⟩) (n + 1) cap')) w') :
    wpList Try.prog ops Q (o :: rest) a w := by
  obtain ⟨i0, hi, hz0, hz1, hz2⟩ := info_parts info_int
  have hBg : B ≤ g := hq.2.2.1
  have hlen : l.length = n := hq.1
  have hgl := hq.lt
  refine wpList_append_arg w hgd s x 22 ho 3 i0 _ 1 8 Try.underlying22 hi hz0 hz1 hz2 rfl (by omega) g off n cap (l.map I) hs (by simpa using hlen) ?_ ⟨b, 0, none⟩ 1 c [I u] hx rfl ?_ ?_ ?_ (by unfold maxLen; omega) (by omega) ?_ ?_
  · intro j y hj
    have hjn : j < n := by have := (List.getElem?_eq_some_iff.1 hj).1; simpa [hlen] using this
    rw [hq.at hjn]
    rw [List.getElem?_map, List.getElem?_eq_getElem (by omega)] at hj
    rw [List.getD_eq_getElem?_getD, List.getElem?_eq_getElem (by omega)]
    simpa using hj
  · intro j y hj
    match j, hj with
    | 0, hj => simp at hj; subst hj; simpa [Addr.add] using hu
  · intro y hy; simp at hy; subst hy; rfl
  · intro hroom j hj
    have hj0 : j = 0 := by simpa using hj
    subst hj0
    obtain ⟨_, _, _, cur, hg, h4, _⟩ := hq
    refine ⟨?_, frozen_of_row w g _ cur _ hg⟩
    rw [cell_of_row w g _ cur _ _ hg, Array.getElem?_eq_getElem (by omega)]
    rfl
  · intro hroom
    have e : w.setCells g (off + n * 1) [I u] = w.setCell ⟨g, off + n, none⟩ (I u) := by rw [Nat.mul_one]; rfl
    rw [e]
    exact h g off cap _ (hq.store hroom u) (grown_set (World.grownBy.refl _ _) _) ((Below.refl _ _).setCell hBg _) (.inl rfl)
  · intro hfull v' w' hown hg
    have hown' : w'.ownsRow w.heap.size 3 1 v' (n + 1) ((l ++ [u]).map I) := by rw [List.map_append]; exact hown
    obtain ⟨g', cap', rfl, hq'⟩ := QI.of_own hown' (by omega)
    have hg2 : w.grownBy w' (some g) := ⟨hg.os, hg.tape, hg.output, hg.size, fun k hk _ => hg.block k hk (by simp)⟩
    refine h g' 0 cap' w' ⟨hq'.1, hq'.2.1, by have := hq'.2.2.1; omega, hq'.2.2.2⟩ hg2 ((Below.refl _ _).grown hg hB fun k hk => by cases hk) (.inr hq'.2.2.1)

/-- append(v, x) of one integer onto an own slice, and where the new one lies. -/
theorem wpList_app_intH {rest : List Oper} (hgd : o.guard = none) (s x : Operand)
    (ho : o.op = .call { callee := .builtin .append, args := #[s, x], argTypes := #[22, 22] })
    (B n : Nat) (v : Value) (l : List Int) (hs : a.eval s = v) (hown : OwI w B v l) (hl : l.length = n) (b c : Nat) (u : Int) (hx : a.eval x = .slice (some ⟨b, 0, none⟩) 1 c)
    (hu : w.cell? ⟨b, 0, none⟩ = some (I u)) (hn : n ≤ 4000000) (hB : B ≤ w.heap.size)
    (h : ∀ g cap w', OwI w' B (.slice (some ⟨g, 0, none⟩) (n + 1) cap) (l ++ [u]) → w.grownBy w' v.ownBlock → Below B w w' → (v.ownBlock = some g ∨ g = w.heap.size) → wpList Try.prog ops Q rest (a.put o.dst (.slice (some ⟨g, 0, none⟩) (n + 1) cap)) w') :
    wpList Try.prog ops Q (o :: rest) a w := by
  subst hl
  obtain ⟨i0, hi, hz0, hz1, hz2⟩ := info_parts info_int
  refine wpList_append_lies w hgd s x _ ho B 3 i0 _ 1 8 Try.underlying22 hi hz0 hz1 hz2 rfl (by omega) v l.length (l.map I) hs hown ⟨b, 0, none⟩ 1 c [I u] hx rfl ?_ ?_ (by omega) (by unfold maxLen; omega) (by omega) hB w.heap.size rfl ?_
  · intro j y hj
    match j, hj with
    | 0, hj => simp at hj; subst hj; simpa [Addr.add] using hu
  · intro y hy; simp at hy; subst hy; rfl
  · intro g cap w' hown' hg hat _
    exact h g cap w' (by simpa [OwI] using hown') hg (below_of_own hown hB hg) hat
end

/-- Blocks apart. -/
def Apt (v v' : Value) : Prop := ∀ k, v.ownBlock = some k → v'.ownBlock ≠ some k
theorem Apt.kept {w w' : World} {B e sz n : Nat} {v v' : Value} {xs : List Value} (h : w.ownsRow B e sz v n xs) (ha : Apt v v') (hg : w.grownBy w' v'.ownBlock) : w'.ownsRow B e sz v n xs := by
  refine h.kept hg ?_
  cases hv : v.ownBlock with
  | none => exact .inl rfl
  | some k => exact .inr fun e => ha k hv e.symm
theorem Apt.next {w : World} {B e sz n g n' c' : Nat} {v v' : Value} {xs : List Value} (h : w.ownsRow B e sz v n xs) (ha : Apt v v') (hat : v'.ownBlock = some g ∨ w.heap.size ≤ g) : Apt v (.slice (some ⟨g, 0, none⟩) n' c') := by
  intro k hk e
  have hkg : g = k := by simpa [Value.ownBlock] using e
  subst hkg
  rcases hat with hat | hat
  · exact ha g hk hat
  · have := own_block h g hk
    omega
/-- A store below the base. -/
theorem own_lo {w : World} {B e sz n g o : Nat} {v : Value} {xs : List Value} (h : w.ownsRow B e sz v n xs) (hg : g < B) (u : Value) : (w.setCell ⟨g, o, none⟩ u).ownsRow B e sz v n xs := by
  refine h.kept (grown_set (World.grownBy.refl w _) u) ?_
  cases hv : v.ownBlock with
  | none => exact .inl rfl
  | some k =>
    have := own_block h k hv
    refine .inr fun e => ?_
    simp at e
    omega
theorem own_one {w : World} {B : Nat} (x : Int) (hB : B ≤ w.heap.size) : OwI (w.alloc (.cells #[.int .i64 x] 3)) B (.slice (some ⟨w.heap.size, 0, none⟩) 1 1) [x] := by
  have h := World.ownsRow_lit (base := B) (e := 3) (size := 1) w #[.int .i64 x] 1 hB (by unfold maxLen; omega) (by simp)
  unfold OwI
  simpa using h
theorem zeros_ownB {w : World} {B : Nat} (n : Nat) (hn : n ≤ 1000) (hB : B ≤ w.heap.size) :
    OwI (w.alloc (.cells (madeCells #[Value.int .i64 0] n) 3)) B (.slice (some ⟨w.heap.size, 0, none⟩) n n) (List.replicate n (0 : Int)) := by
  have h := World.ownsRow_lit (base := B) (e := 3) (size := 1) w (madeCells #[Value.int .i64 0] n) n hB (by unfold maxLen; omega) (by simp [size_madeCells])
  unfold OwI
  simp only [List.length_replicate]
  rw [toList_madeCells_one] at h
  rw [List.map_replicate]
  exact h
end Go.Proofs.Ytbbjgcagkmlngab
/- Lists of natural numbers as cells; own rows of integers: their cells, a store, a beginning. -/
namespace Go.Proofs.Ytbbjgcagkmlngab
open Go.RowKit

def cs (l : List Nat) : List Int := l.map fun (n : Nat) => (n : Int)
theorem cs_len (l : List Nat) : (cs l).length = l.length := by simp [cs]
theorem cs_getD (l : List Nat) (i : Nat) : (cs l).getD i 0 = ((l.getD i 0 : Nat) : Int) := by
  simp only [cs, List.getD_eq_getElem?_getD, List.getElem?_map]
  cases l[i]? <;> rfl
theorem cs_snoc (l : List Nat) (x : Nat) : cs (l ++ [x]) = cs l ++ [(x : Int)] := by simp [cs]
theorem own_cells {w : World} {B n c : Nat} {A : Option Addr} {l : List Int} (h : OwI w B (.slice A n c) l) (hl : l.length = n) (hn : 0 < n) :
    ∃ g, A = some ⟨g, 0, none⟩ ∧ B ≤ g ∧ g < w.heap.size ∧ ∀ j, j < n → w.cell? ⟨g, j, none⟩ = some (.int .i64 (l.getD j 0)) := by
  unfold OwI at h
  rw [hl] at h
  obtain ⟨g, rfl, h1, h2, h3, _⟩ := own_at h hn
  refine ⟨g, rfl, h1, h2, fun j hj => ?_⟩
  rw [h3 j (by omega), List.getElem?_map, List.getElem?_eq_getElem (by omega), List.getD_eq_getElem?_getD, List.getElem?_eq_getElem (by omega)]
  rfl
theorem own_store {w : World} {B g n c i : Nat} {l : List Int} {x : Int} (h : OwI w B (.slice (some ⟨g, 0, none⟩) n c) l) (hl : l.length = n) :
    w.frozen? ⟨g, i, none⟩ = false ∧ OwI (w.setCell ⟨g, i, none⟩ (.int .i64 x)) B (.slice (some ⟨g, 0, none⟩) n c) (l.set i x) := by
  have h' : w.ownsRow B 3 1 (.slice (some ⟨g, 0, none⟩) n c) n (l.map I) := by unfold OwI at h; rw [hl] at h; exact h
  refine ⟨h'.frozenAt _, ?_⟩
  have h1 := (h'.stored i (.int .i64 x)).1
  unfold OwI
  rw [List.length_set, hl, List.map_set]
  exact h1
/-- A beginning of an own row. -/
theorem own_take {w : World} {B g c : Nat} {l : List Int} (h : OwI w B (.slice (some ⟨g, 0, none⟩) l.length c) l) {k : Nat} (hk : k ≤ l.length) : OwI w B (.slice (some ⟨g, 0, none⟩) k c) (l.take k) := by
  unfold OwI at h ⊢
  have hl : (l.take k).length = k := by rw [List.length_take]; omega
  rw [hl]
  rcases h.2 with ⟨h0, _⟩ | ⟨g', cap, cur, hv, hb, hg, hn, hm, hs, ht⟩
  · cases h0
  · injection hv with e1 _ e2
    injection e1 with e1
    injection e1 with e1
    subst e1
    subst e2
    refine ⟨by rw [List.length_map, hl, Nat.mul_one], .inr ⟨g, c, cur, rfl, hb, hg, by omega, hm, hs, ?_⟩⟩
    have := congrArg (List.take (k * 1)) ht
    rw [List.take_take, Nat.min_eq_left (by omega)] at this
    rw [this, Nat.mul_one, List.map_take]
/-- An own row stays as long as its block. -/
theorem own_heap {w w' : World} {B g n c : Nat} {l : List Int} (h : OwI w B (.slice (some ⟨g, 0, none⟩) n c) l) (hk : w'.heap[g]? = w.heap[g]?) : OwI w' B (.slice (some ⟨g, 0, none⟩) n c) l := by
  refine ⟨h.1, ?_⟩
  rcases h.2 with ⟨h0, _⟩ | ⟨g', cap, cur, hv, hb, hg, hr⟩
  · cases h0
  · have e : g = g' := by
      injection hv with e1
      injection e1 with e1
      injection e1
    subst e
    exact .inr ⟨g, cap, cur, hv, hb, hk.trans hg, hr⟩
theorem own_lt {w : World} {B g n c : Nat} {l : List Int} (h : OwI w B (.slice (some ⟨g, 0, none⟩) n c) l) : B ≤ g ∧ g < w.heap.size := by
  rcases h.2 with ⟨h0, _⟩ | ⟨g', cap, cur, hv, hb, hg, hr⟩
  · cases h0
  · have e : g = g' := by
      injection hv with e1
      injection e1 with e1
      injection e1
    subst e
    exact ⟨hb, (Array.getElem?_eq_some_iff.1 hg).1⟩
theorem cell_heap {w w' : World} {p : Addr} (h : w'.heap[p.block]? = w.heap[p.block]?) : w'.cell? p = w.cell? p := by
  unfold World.cell?
  rw [h]
end Go.Proofs.Ytbbjgcagkmlngab
/- All ways of the tree, by the program. -/
namespace Go.Proofs.Ytbbjgcagkmlngab
open Go.RowKit

def TV (f : Nat → Option Addr × Nat) (T : List (List Nat)) : List Value := (List.range T.length).map fun i => Value.slice (f i).1 (T.getD i []).length (f i).2
def OwN (w : World) (B : Nat) (A : Option Addr) (c : Nat) (f : Nat → Option Addr × Nat) (T : List (List Nat)) : Prop :=
  w.ownsRow B 22 1 (.slice A T.length c) T.length (TV f T) ∧ ∀ i, i < T.length → OwI w B (.slice (f i).1 (T.getD i []).length (f i).2) (cs (T.getD i []))

theorem own_nblk {w : World} {B e sz n b : Nat} {t : TypeId} {v : Value} {xs : List Value} {arr : Array Value} (h : w.ownsRow B e sz v n xs) (hb : w.heap[b]? = some (.cells arr t (0, 0))) (hne : e ≠ t) : v.ownBlock ≠ some b := by
  intro hg
  rcases h.2 with ⟨rfl, _⟩ | ⟨g', cap, cur, hv, _, hh, _⟩
  · cases hg
  · rw [hv] at hg
    have e1 : g' = b := by simpa [Value.ownBlock] using hg
    subst e1
    rw [hb] at hh
    injection hh with hh
    injection hh with _ h2
    exact hne h2.symm
/-- Which numbers are there. -/
def AD (w : World) (b : Nat) (T : List (List Nat)) : Prop := ∃ arr : Array Value, w.heap[b]? = some (.cells arr 178 (0, 0)) ∧ arr.size = 401 ∧ ∀ n, n ≤ 400 → arr[n]? = some (.bool (T.any fun q => lastN q == n))
theorem AD.keep {w w' : World} {b : Nat} {T : List (List Nat)} (h : AD w b T) (hk : w'.heap[b]? = w.heap[b]?) : AD w' b T := by
  obtain ⟨arr, h1, h2⟩ := h
  exact ⟨arr, hk.trans h1, h2⟩
theorem AD.lt {w : World} {b : Nat} {T : List (List Nat)} (h : AD w b T) : b < w.heap.size := by
  obtain ⟨arr, h1, _⟩ := h
  exact (Array.getElem?_eq_some_iff.1 h1).1
theorem AD.at_ {w : World} {b : Nat} {T : List (List Nat)} (h : AD w b T) {n : Nat} (hn : n ≤ 400) : w.cell? ⟨b, n, none⟩ = some (.bool (T.any fun q => lastN q == n)) ∧ w.frozen? ⟨b, n, none⟩ = false := by
  obtain ⟨arr, h1, _, h3⟩ := h
  exact ⟨by rw [cell_of_row w b n arr _ _ h1]; exact h3 n hn, frozen_of_row w b n arr _ h1⟩
theorem AD.add {w : World} {b : Nat} {T : List (List Nat)} (h : AD w b T) {n : Nat} (hn : n ≤ 400) (p : List Nat) : AD (w.setCell ⟨b, n, none⟩ (.bool true)) b (T ++ [p ++ [n]]) := by
  obtain ⟨arr, h1, h2, h3⟩ := h
  refine ⟨_, heap_setCell_same w b n arr _ _ h1, by rw [Array.size_setIfInBounds]; exact h2, fun k hk => ?_⟩
  rw [Array.getElem?_setIfInBounds, List.any_append, List.any_cons, List.any_nil, Bool.or_false, lastN_snoc]
  by_cases e : n = k
  · subst e
    rw [if_pos rfl, if_pos (by omega)]
    simp
  · rw [if_neg e, h3 k hk]
    simp [e]
theorem AD.type {w : World} {b : Nat} {T : List (List Nat)} (h : AD w b T) : ∃ arr, w.heap[b]? = some (.cells arr 178 (0, 0)) := by
  obtain ⟨arr, h1, _⟩ := h
  exact ⟨arr, h1⟩
theorem addW_add {p : List Nat} {T : List (List Nat)} {a x : Nat} (hx : lastN p + a = x) (h : x ≤ 400) (h2 : (T.any fun q => lastN q == x) = false) : addW p T a = T ++ [p ++ [x]] := by
  unfold addW
  rw [hx, ← List.not_any_eq_all_not, h2, if_pos ⟨h, rfl⟩]
theorem addW_big {p : List Nat} {T : List (List Nat)} {a x : Nat} (hx : lastN p + a = x) (h : ¬ x ≤ 400) : addW p T a = T := by
  unfold addW
  rw [hx, if_neg (fun h' => h h'.1)]
theorem addW_has {p : List Nat} {T : List (List Nat)} {a x : Nat} (hx : lastN p + a = x) (h2 : (T.any fun q => lastN q == x) = true) : addW p T a = T := by
  unfold addW
  rw [hx, ← List.not_any_eq_all_not, h2, if_neg (fun h' => absurd h'.2 (by simp))]
theorem zero_arr : Try.zeroCells178.toList = List.replicate 401 (.bool false) := by kernel_rfl
theorem TV_len (f : Nat → Option Addr × Nat) (T : List (List Nat)) : (TV f T).length = T.length := by simp [TV]
theorem TV_at (f : Nat → Option Addr × Nat) {T : List (List Nat)} {i : Nat} (hi : i < T.length) : (TV f T)[i]? = some (.slice (f i).1 (T.getD i []).length (f i).2) := by simp [TV, hi]
theorem getD_appN {T : List (List Nat)} (p : List Nat) {i : Nat} (hi : i < T.length) : (T ++ [p]).getD i [] = T.getD i [] := by
  rw [List.getD_eq_getElem?_getD, List.getElem?_append_left hi, ← List.getD_eq_getElem?_getD]
theorem getD_lastN (T : List (List Nat)) (p : List Nat) : (T ++ [p]).getD T.length [] = p := by
  rw [List.getD_eq_getElem?_getD, List.getElem?_concat_length]
  rfl
def updN (f : Nat → Option Addr × Nat) (k : Nat) (a : Option Addr × Nat) : Nat → Option Addr × Nat := fun i => if i = k then a else f i
theorem TV_upd (f : Nat → Option Addr × Nat) (T : List (List Nat)) (p : List Nat) (A : Option Addr) (c : Nat) : TV (updN f T.length (A, c)) (T ++ [p]) = TV f T ++ [.slice A p.length c] := by
  unfold TV
  rw [List.length_append, List.length_singleton, List.range_succ, List.map_append]
  congr 1
  · apply List.map_congr_left
    intro i hi
    have hi' := List.mem_range.1 hi
    rw [getD_appN p hi']
    simp [updN, show i ≠ T.length by omega]
  · simp only [List.map_cons, List.map_nil]
    rw [getD_lastN]
    simp [updN]
theorem OwN.below {w w' : World} {B : Nat} {A : Option Addr} {c : Nat} {f : Nat → Option Addr × Nat} {T : List (List Nat)} (h : OwN w B A c f T) (hb : Below w.heap.size w w') : OwN w' B A c f T := ⟨own_below h.1 hb, fun i hi => (h.2 i hi).below hb⟩
theorem OwN.store {w : World} {B : Nat} {A : Option Addr} {c : Nat} {f : Nat → Option Addr × Nat} {T : List (List Nat)} (h : OwN w B A c f T) {b n : Nat} {arr : Array Value} (hb : w.heap[b]? = some (.cells arr 178 (0, 0))) (v : Value) : OwN (w.setCell ⟨b, n, none⟩ v) B A c f T :=
  ⟨ownsRow_setCell_other h.1 (own_nblk h.1 hb (by decide)) v, fun i hi => ownsRow_setCell_other (h.2 i hi) (own_nblk (h.2 i hi) hb (by decide)) v⟩
theorem OwN.at_ {w : World} {B : Nat} {A : Option Addr} {c : Nat} {f : Nat → Option Addr × Nat} {T : List (List Nat)} (h : OwN w B A c f T) {i : Nat} (hi : i < T.length) :
    ∃ g, A = some ⟨g, 0, none⟩ ∧ B ≤ g ∧ w.cell? ⟨g, i, none⟩ = some (.slice (f i).1 (T.getD i []).length (f i).2) := by
  obtain ⟨g, rfl, hB, _, hc, _⟩ := own_at h.1 (by omega)
  exact ⟨g, rfl, hB, by rw [hc i (by omega), TV_at f hi]⟩

theorem World.heap_size_setCell' (w : World) (p : Addr) (v : Value) : (w.setCell p v).heap.size = w.heap.size := by simp
theorem OwN.add {w1 w6 w7 : World} {B c bA x m c6 c7 : Nat} {A A6 A7 : Option Addr} {f : Nat → Option Addr × Nat} {T : List (List Nat)} {p : List Nat} {o : Obj} (h : OwN w1 B A c f T) (had : AD w1 bA (T ++ [p ++ [x]])) (hB : B ≤ w1.heap.size) (hb : Below w1.heap.size w1 w6)
    (h6 : OwI w6 w1.heap.size (.slice A6 (m + 1) c6) (cs p ++ [(x : Int)])) (hm : p.length = m)
    (hown : w7.ownsRow B 22 1 (.slice A7 (T.length + 1) c7) (T.length + 1) (TV f T ++ [.slice A6 (m + 1) c6])) (hg : (w6.alloc o).grownBy w7 (Value.slice A T.length c).ownBlock) :
    OwN w7 B A7 c7 (updN f T.length (A6, c6)) (T ++ [p ++ [x]]) ∧ AD w7 bA (T ++ [p ++ [x]]) := by
  have hb2 : Below w1.heap.size w1 (w6.alloc o) := hb.alloc hb.size _
  have hlen : (p ++ [x]).length = m + 1 := by rw [List.length_append, hm]; rfl
  refine ⟨⟨?_, fun i hi => ?_⟩, ?_⟩
  · rw [List.length_append, List.length_singleton, TV_upd, hlen]
    exact hown
  · rw [List.length_append, List.length_singleton] at hi
    rcases Nat.lt_or_ge i T.length with hlt | hge
    · rw [getD_appN _ hlt, show updN f T.length (A6, c6) i = f i by simp [updN, show i ≠ T.length by omega]]
      have hrow := own_below (show World.ownsRow _ _ _ _ _ _ _ from h.2 i hlt) hb2
      exact World.ownsRow.kept hrow hg (own_ne hrow (own_below h.1 hb2) (by decide))
    · have e : i = T.length := by omega
      subst e
      rw [getD_lastN, show updN f T.length (A6, c6) T.length = (A6, c6) by simp [updN], hlen, cs_snoc]
      have h6' : (w6.alloc o).ownsRow w1.heap.size 3 1 (.slice A6 (m + 1) c6) (cs p ++ [(x : Int)]).length ((cs p ++ [(x : Int)]).map I) := OwI.alloc h6 _
      exact own_base (World.ownsRow.kept h6' hg (own_ne h6' (own_below h.1 hb2) (by decide))) hB
  · refine had.keep ?_
    have hlt := had.lt
    obtain ⟨arr, harr⟩ := had.type
    have hne := own_nblk h.1 harr (by decide)
    exact (hg.block bA (by have := hb2.size; omega) (fun e => hne e.symm)).trans (hb2.block bA hlt)

/-- What is known of each way. -/
theorem tree_facts {T : List (List Nat)} (h : T <+: treeT) : T.length ≤ 400 ∧ ∀ i, i < T.length → 1 ≤ (T.getD i []).length ∧ (T.getD i []).length ≤ 40 ∧ ∀ j, j < (T.getD i []).length → 1 ≤ (T.getD i []).getD j 0 ∧ (T.getD i []).getD j 0 ≤ 400 := by
  have ht := tree_ok
  rw [← treeT_eq] at ht
  unfold treeOk at ht
  obtain ⟨h1, h2⟩ := (Bool.and_eq_true _ _).mp ht
  have hl := h.length_le
  refine ⟨Nat.le_trans hl (of_decide_eq_true h1), fun i hi => ?_⟩
  have hm : T.getD i [] ∈ treeT := by
    refine h.subset ?_
    rw [List.getD_eq_getElem?_getD, List.getElem?_eq_getElem hi]
    exact List.getElem_mem hi
  have h3 := List.all_eq_true.1 h2 _ hm
  obtain ⟨h4, h5⟩ := (Bool.and_eq_true _ _).mp h3
  obtain ⟨h6, h7⟩ := (Bool.and_eq_true _ _).mp h4
  refine ⟨?_, of_decide_eq_true h7, fun j hj => ?_⟩
  · cases hq : T.getD i [] with
    | nil => rw [hq] at h6; exact absurd h6 (by simp)
    | cons _ _ => simp
  · have h8 := List.all_eq_true.1 h5 _ (List.getElem_mem hj)
    obtain ⟨h9, h10⟩ := (Bool.and_eq_true _ _).mp h8
    rw [List.getD_eq_getElem?_getD (l := T.getD i []), List.getElem?_eq_getElem hj]
    exact ⟨of_decide_eq_true h9, of_decide_eq_true h10⟩

set_option maxRecDepth 100000 in
set_option maxHeartbeats 4000000 in
theorem treeWays_any (w : World) : Calls Try.prog 116 #[] w fun e w' => ∃ A c f, e = .returned (.slice A treeT.length c) ∧ OwN w' w.heap.size A c f treeT ∧ Below w.heap.size w w' := by
  have hfin := tree_facts (List.prefix_refl treeT)
  obtain ⟨Z, hZ⟩ : ∃ Z, treeT = Z := ⟨_, rfl⟩
  have hrun : runW 400 0 [[1]] = Z := hZ
  have hTF := fun (T : List (List Nat)) (h : T <+: Z) => tree_facts (by rw [hZ]; exact h)
  rw [hZ] at hfin
  rw [hZ]
  have HRUN := Lib.hid hrun
  have HTF := Lib.hid hTF
  have HFIN := Lib.hid hfin.1
  clear hrun hTF hfin hZ
  go_enter Try.func116, Try.ntmps116
  go_wp2
  generalize hw3 : World.alloc (World.alloc (World.alloc w _) _) _ = w3
  obtain ⟨b, hb⟩ : ∃ b, w.heap.size = b := ⟨_, rfl⟩
  have q1 : w3.heap[b]? = some (.cells #[.int .i64 1] 3 (0, 0)) := by
    rw [← hw3, ← hb, Below.heap_alloc _ _ _ (by simp; omega), Below.heap_alloc _ _ _ (by simp), heap_alloc_new]
  have z1 : (w.alloc (.cells #[.int .i64 1] 3)).heap.size = b + 1 := by simp [hb]
  have q2 : w3.heap[b + 1]? = some (.cells #[.slice (some ⟨b, 0, none⟩) 1 1] 22 (0, 0)) := by
    rw [← hw3, Below.heap_alloc _ _ _ (by simp; omega), ← z1, heap_alloc_new, hb]
  have q3 : w3.heap[b + 2]? = some (.cells (Try.zeroCells178.setIfInBounds 1 (.bool true)) 178 (0, 0)) := by
    have := heap_alloc_new ((w.alloc (.cells #[.int .i64 1] 3)).alloc (.cells #[.slice (some ⟨w.heap.size, 0, none⟩) 1 1] 22)) (.cells (Try.zeroCells178.setIfInBounds 1 (.bool true)) 178)
    rw [hw3] at this
    rw [show ((w.alloc (.cells #[.int .i64 1] 3)).alloc (.cells #[.slice (some ⟨w.heap.size, 0, none⟩) 1 1] 22)).heap.size = b + 2 by simp [hb]] at this
    exact this
  have qb : Below w.heap.size w w3 := by rw [← hw3]; exact ((((Below.refl _ _).alloc (Nat.le_refl _) _).alloc (by simp) _).alloc (by simp; omega) _)
  have hAD : AD w3 (b + 2) [[1]] := by
    have hsz : Try.zeroCells178.size = 401 := by simp
    refine ⟨_, q3, by rw [Array.size_setIfInBounds]; exact hsz, fun n hn => ?_⟩
    rw [Array.getElem?_setIfInBounds]
    by_cases e : 1 = n
    · subst e
      rw [if_pos rfl, if_pos (by omega)]
      rfl
    · rw [if_neg e, ← Array.getElem?_toList, zero_arr, List.getElem?_replicate, if_pos (by omega)]
      have : ([[1]] : List (List Nat)).any (fun q => lastN q == n) = false := by
        show (lastN [1] == n || false) = false
        rw [Bool.or_false]
        show ((1 : Nat) == n) = false
        simpa using e
      rw [this]
  have hOW : OwN w3 w.heap.size (some ⟨b + 1, 0, none⟩) 1 (fun _ => (some ⟨b, 0, none⟩, 1)) [[1]] := by
    rw [hb]
    refine ⟨⟨rfl, .inr ⟨b + 1, 1, _, rfl, by omega, q2, Nat.le_refl _, by unfold maxLen; omega, rfl, rfl⟩⟩, fun i hi => ?_⟩
    have e : i = 0 := by simpa using hi
    subst e
    exact ⟨rfl, .inr ⟨b, 1, _, rfl, Nat.le_refl _, q1, Nat.le_refl _, by unfold maxLen; omega, rfl, rfl⟩⟩
  have HAD := Lib.hid hAD
  have HOW := Lib.hid hOW
  have QB := Lib.hid qb
  have HB := Lib.hid hb
  rw [hb]
  obtain ⟨bA, hbA⟩ : ∃ bA, b + 1 + 1 = bA := ⟨_, rfl⟩
  rw [hbA]
  rw [show b + 2 = bA from hbA] at HAD
  have HBA := Lib.hid hbA
  clear q1 q2 q3 z1 qb hAD hOW hw3 hb hbA
  go_loopg [1, 3] 401 (fun gk v1 v3 wr => ∃ (i R : Nat) (T : List (List Nat)) (A : Option Addr) (c : Nat) (f : Nat → Option Addr × Nat), v3 = .int .i64 (i : Int) ∧ v1 = .slice A R c ∧ 401 ≤ gk + i ∧ i ≤ 400 ∧ Aside (R = T.length ∧ OwN wr w.heap.size A c f T ∧ AD wr bA T ∧ Below w.heap.size w wr ∧ runW (400 - i) i T = Z))
  case atStart => exact ⟨0, 1, [[1]], _, 1, _, rfl, rfl, by omega, by omega, rfl, HOW.out, HAD.out, QB.out, HRUN.out⟩
  case round =>
    obtain ⟨i, R, T, A, c, f, rfl, rfl, hgk, hi4, AS⟩ := hrel
    clear HOW HAD QB
    have HR := Lib.hid AS.out.1
    have OWN := Lib.hid AS.out.2.1
    have ADD := Lib.hid AS.out.2.2.1
    have BEL := Lib.hid AS.out.2.2.2.1
    have hs := AS.out.2.2.2.1.size
    have RUN := Lib.hid AS.out.2.2.2.2
    have hpre : T <+: Z := by rw [← AS.out.2.2.2.2]; exact runW_pre _ _ _
    have hR4 : R ≤ 400 := by rw [AS.out.1]; exact (HTF.out T hpre).1
    have hTf := (HTF.out T hpre).2
    clear AS
    by_cases hlt : i < R
    · have iiR : (i : Int) < (R : Int) := by omega
      have hiT : i < T.length := by rw [← HR.out]; exact hlt
      obtain ⟨p1, p2, p3⟩ := hTf i hiT
      obtain ⟨g, rfl, hgB, hcell⟩ := OWN.out.at_ hiT
      have hrow := OWN.out.2 i hiT
      have hpreJ : procW T i <+: Z := by
        have h := RUN.out
        rw [show 400 - i = (400 - (i + 1)) + 1 by omega, runW_step hiT] at h
        rw [← h]
        exact runW_pre _ _ _
      have hnext : runW (400 - (i + 1)) (i + 1) (procW T i) = Z := by
        have h := RUN.out
        rw [show 400 - i = (400 - (i + 1)) + 1 by omega, runW_step hiT] at h
        exact h
      have hJs := fun j => procJ_succ T i (j := j)
      have hJe := procJ_end T i
      have hJp := fun j => (procJ_pre T i j).trans hpreJ
      have hJT : ∀ j, T <+: procJ T i j := fun j => foldW_pre _ _ T
      have hgi : ∀ j, (procJ T i j).getD i [] = T.getD i [] := fun j => by
        obtain ⟨r, hr⟩ := hJT j
        rw [← hr, List.getD_eq_getElem?_getD, List.getElem?_append_left hiT, ← List.getD_eq_getElem?_getD]
      obtain ⟨p, hp⟩ : ∃ p, T.getD i [] = p := ⟨_, rfl⟩
      rw [hp] at p1 p2 p3 hcell hrow hJs hJe hgi
      obtain ⟨m, hm⟩ : ∃ m, p.length = m := ⟨_, rfl⟩
      rw [hm] at p1 p2 p3 hcell hrow hJs hJe
      obtain ⟨fa, hfa⟩ : ∃ fa, f i = fa := ⟨_, rfl⟩
      obtain ⟨a1, a2⟩ := fa
      rw [hfa] at hcell hrow
      have HNX := Lib.hid hnext
      have HJS := Lib.hid hJs
      have HJE := Lib.hid hJe
      have HJP := Lib.hid hJp
      have HGI := Lib.hid hgi
      have HJT := Lib.hid hJT
      have HP3 := Lib.hid p3
      have HM := Lib.hid hm
      have HFA := Lib.hid hfa
      have HIT := Lib.hid hiT
      clear hnext hJs hJe hJp hgi hJT p3 hp hm hfa hpreJ hpre hTf hrow RUN hiT
      go_wp2
      clear hcell
      obtain ⟨wo, rfl⟩ : ∃ wo, wo = wr := ⟨_, rfl⟩
      go_loopg [1, 21] (m + 1) (fun gj v1 v21 wq => ∃ (j R' : Nat) (A' : Option Addr) (c' : Nat) (f' : Nat → Option Addr × Nat), v21 = .int .i64 (j : Int) ∧ v1 = .slice A' R' c' ∧ m + 1 ≤ gj + j ∧ j ≤ m ∧ Aside (R' = (procJ T i j).length ∧ OwN wq w.heap.size A' c' f' (procJ T i j) ∧ AD wq bA (procJ T i j) ∧ Below w.heap.size w wq ∧ f' i = (a1, a2)))
      case atStart => exact ⟨0, R, _, c, f, rfl, rfl, by omega, by omega, HR.out, OWN.out, ADD.out, BEL.out, HFA.out⟩
      case round =>
        obtain ⟨j, R', A', c', f', rfl, rfl, hgj, hjm, AS⟩ := hrel
        clear OWN ADD BEL hs
        have HR' := Lib.hid AS.out.1
        have OW' := Lib.hid AS.out.2.1
        have AD' := Lib.hid AS.out.2.2.1
        have BE' := Lib.hid AS.out.2.2.2.1
        have hs' := AS.out.2.2.2.1.size
        have HF' := Lib.hid AS.out.2.2.2.2
        have hT4 := (HTF.out _ (HJP.out j)).1
        have hiT' : i < (procJ T i j).length := Nat.lt_of_lt_of_le HIT.out (HJT.out j).length_le
        obtain ⟨g', rfl, hgB', hcell⟩ := AS.out.2.1.at_ hiT'
        have hrow := AS.out.2.1.2 i hiT'
        rw [HGI.out j, AS.out.2.2.2.2, HM.out] at hcell hrow
        dsimp only at hcell hrow
        clear AS
        by_cases hj : j < m
        · have ijm : (j : Int) < (m : Int) := by omega
          have iiR' : (i : Int) < (R' : Int) := by rw [HR'.out]; omega
          have hR'4 : R' ≤ 400 := by rw [HR'.out]; exact hT4
          obtain ⟨gr, rfl, hgrB, _, hcr⟩ := own_cells hrow (by rw [cs_len]; exact HM.out) (by omega)
          have hca := hcr j hj
          rw [cs_getD] at hca
          have hab := HP3.out j hj
          have hxb : 1 ≤ lastN p ∧ lastN p ≤ 400 := by
            have := HP3.out (m - 1) (by omega)
            unfold lastN
            rw [HM.out]
            exact this
          have hcl : (cs p).length = m := by rw [cs_len]; exact HM.out
          have hrd : Rd wr wr.heap.size 1 (some ⟨gr, 0, none⟩) m ((cs p).map I) := by
            have h := hrow
            unfold OwI at h
            rw [hcl] at h
            exact Rd.of_own h
          have hE := endOf_any wr.heap.size (some ⟨gr, 0, none⟩) a2 (cs p) wr (by omega) (by omega) (by rw [hcl]; exact hrd)
          have hlv : (cs p).getD ((cs p).length - 1) 0 = (lastN p : Int) := by rw [cs_len, cs_getD]; rfl
          rw [hlv, cs_len, HM.out] at hE
          have hsucc := HJS.out j hj
          obtain ⟨a, ha⟩ : ∃ a, p.getD j 0 = a := ⟨_, rfl⟩
          rw [ha] at hca hab hsucc
          obtain ⟨x, hx⟩ : ∃ x, lastN p + a = x := ⟨_, rfl⟩
          obtain ⟨l, hl⟩ : ∃ l, lastN p = l := ⟨_, rfl⟩
          rw [hl] at hE hxb
          have HW1 := Lib.hid (show IntKind.i64.wrap ((l : Int) + (a : Int)) = (x : Int) by rw [IntWalk.i64_in _ (by omega)]; omega)
          have HEND := Lib.hid hE
          have HX := Lib.hid hx
          have HSU := Lib.hid hsucc
          have HROW := Lib.hid hrow
          have HRD := Lib.hid hrd
          clear hE hlv hcr ha hrow hrd hsucc hcl
          by_cases h400 : x ≤ 400
          case neg =>
            have ix : ¬ (x : Int) ≤ 400 := by omega
            have E := Lib.hid (show procJ T i (j + 1) = procJ T i j by rw [HSU.out]; exact addW_big HX.out h400)
            clear hx hl h400
            go_wp2_with fail
            go_at_call 117
            refine HEND.out.mono ?_
            rintro e w4 ⟨rfl, hw4⟩
            subst hw4
            clear HTF HNX HJS HJE HJP HGI HJT HP3 HM HFA HIT HRUN HX HSU
            have hw1 := HW1.out
            go_wp2
            clear hw1 ix
            go_roundg (gk - 1)
            case measure => omega
            case rel => exact ⟨j + 1, R', _, c', f', by go_num, rfl, by omega, by omega, by rw [E.out]; exact HR'.out, by rw [E.out]; exact OW'.out, by rw [E.out]; exact AD'.out, BE'.out, HF'.out⟩
          case pos =>
          have ix : (x : Int) ≤ 400 := by omega
          have ix1 : (x : Int) < 401 := by omega
          obtain ⟨hadc, hadf⟩ := AD'.out.at_ h400
          obtain ⟨v, hv⟩ : ∃ v, ((procJ T i j).any fun q => lastN q == x) = v := ⟨_, rfl⟩
          rw [hv] at hadc
          have HV := Lib.hid hv
          clear hv
          cases v with
          | true =>
            have E := Lib.hid (show procJ T i (j + 1) = procJ T i j by rw [HSU.out]; exact addW_has HX.out HV.out)
            clear hx hl
            go_wp2_with fail
            go_at_call 117
            refine HEND.out.mono ?_
            rintro e w4 ⟨rfl, hw4⟩
            subst hw4
            have hw1 := HW1.out
            go_wp2
            clear hw1
            go_roundg (gk - 1)
            case measure => omega
            case rel => exact ⟨j + 1, R', _, c', f', by go_num, rfl, by omega, by omega, by rw [E.out]; exact HR'.out, by rw [E.out]; exact OW'.out, by rw [E.out]; exact AD'.out, BE'.out, HF'.out⟩
          | false =>
            have E := Lib.hid (show procJ T i (j + 1) = procJ T i j ++ [p ++ [x]] by rw [HSU.out]; exact addW_add HX.out h400 HV.out)
            clear hx hl
            have hlen' := HR'.out
            have hne : ¬ bA = g' := by
              intro e
              obtain ⟨arr, harr⟩ := AD'.out.type
              exact own_nblk OW'.out.1 harr (by decide) (by simp [Value.ownBlock, e])
            have hner : ¬ bA = gr := by
              intro e
              obtain ⟨arr, harr⟩ := AD'.out.type
              exact own_nblk (show World.ownsRow _ _ _ _ _ _ _ from HROW.out) harr (by decide) (by simp [Value.ownBlock, e])
            have hOW1 : OwN (wr.setCell ⟨bA, x, none⟩ (.bool true)) w.heap.size (some ⟨g', 0, none⟩) c' f' (procJ T i j) := by
              obtain ⟨arr, harr⟩ := AD'.out.type
              exact OW'.out.store harr _
            have hAD1 : AD (wr.setCell ⟨bA, x, none⟩ (.bool true)) bA (procJ T i j ++ [p ++ [x]]) := AD'.out.add h400 p
            have hcell1 : (wr.setCell ⟨bA, x, none⟩ (.bool true)).cell? ⟨g', i, none⟩ = some (.slice (some ⟨gr, 0, none⟩) m a2) :=
              (cell_heap (p := ⟨g', i, none⟩) (Below.heap_setCell wr ⟨bA, x, none⟩ _ g' (fun e => hne e.symm))).trans hcell
            have hcl : (cs p).length = m := by rw [cs_len]; exact HM.out
            have hrd1 : Rd (wr.setCell ⟨bA, x, none⟩ (.bool true)) wr.heap.size 1 (some ⟨gr, 0, none⟩) m ((cs p).map I) := by
              have h := hOW1.2 i hiT'
              rw [HGI.out j, HF'.out, HM.out] at h
              unfold OwI at h
              rw [hcl] at h
              have h2 := Rd.of_own h
              have hz : (wr.setCell ⟨bA, x, none⟩ (.bool true)).heap.size = wr.heap.size := World.heap_size_setCell' _ _ _
              rw [hz] at h2
              exact h2
            have hCL := cloneI_any wr.heap.size (some ⟨gr, 0, none⟩) a2 (cs p) (wr.setCell ⟨bA, x, none⟩ (.bool true)) (by omega) (by omega) (by rw [World.heap_size_setCell']; exact Nat.le_refl _) (by rw [hcl]; exact hrd1)
            rw [hcl] at hCL
            have HCLN := Lib.hid hCL
            have HCLL := Lib.hid hcl
            have HOW1 := Lib.hid hOW1
            have HAD1 := Lib.hid hAD1
            have HB1 := Lib.hid (show Below w.heap.size w (wr.setCell ⟨bA, x, none⟩ (.bool true)) from BE'.out.setCell (show w.heap.size ≤ bA by have := HB.out; have := HBA.out; omega) _)
            have OWR := Lib.hid (show (wr.setCell ⟨bA, x, none⟩ (.bool true)).ownsRow w.heap.size 22 1 (.slice (some ⟨g', 0, none⟩) R' c') R' (TV f' (procJ T i j)) from by rw [hlen']; exact hOW1.1)
            have hm40 : m ≤ 40 := p2
            have HIT2 := Lib.hid hiT'
            clear hlen' hOW1 hAD1 hcl hrd1 hCL HTF HNX HJS HJE HJP HGI HJT HP3 HFA HIT HRUN HX HSU HROW HRD hiT' OW' AD' HV
            go_wp2_with fail
            go_at_call 117
            refine HEND.out.mono ?_
            rintro e w4 ⟨rfl, hw4⟩
            subst hw4
            have hw1 := HW1.out
            go_wp2_with fail
            clear hw1
            go_at_call 110
            refine HCLN.out.mono ?_
            rintro e w5 ⟨A5, c5, rfl, hown5, hb5⟩
            have O5 := Lib.hid hown5
            have B5 := Lib.hid hb5
            have hs5 := hb5.size
            clear hown5 hb5
            go_wp2_with (first
              | (at_builtin; refine list_step (fun K hK => ?_); refine step_app_int rfl (.tmp 47) (.tmp 49) rfl (w4.setCell ⟨bA, x, none⟩ (.bool true)).heap.size m _ (cs p) rfl (OwI.alloc O5.out _) HCLL.out w5.heap.size 1 (x : Int) rfl (by simp) (by omega) (by simp at hs5; simp; omega) ?_; intro A6 c6 w6 hown6 hg6 hbel6; have O6 := Lib.hid hown6; have B6 := Lib.hid ((B5.out.alloc hs5 _).trans hbel6); have hs6 := B6.out.size; clear hown6 hg6 hbel6; go_simp; refine hK _ _ ?_; clear hK K)
              | (at_builtin; refine list_step (fun K hK => ?_); refine step_app1 Try.underlying56 info_ints rfl (by omega) rfl (.tmp 42) (.tmp 51) rfl w.heap.size R' _ (TV f' (procJ T i j)) rfl (World.ownsRow.alloc (own_below OWR.out B6.out) _) w6.heap.size 1 (.slice A6 (m + 1) c6) rfl (by simp) rfl (by omega) (by have := HB1.out.size; simp at this; simp at hs6; simp; omega) ?_; intro A7 c7 w7 hown7 hg7 hbel7; go_simp; refine hK _ _ ?_; clear hK K))
            have hR := HR'.out
            have hadd := OwN.add HOW1.out HAD1.out (by have := HB1.out.size; exact this) B6.out (m := m) (o := .cells #[.slice A6 (m + 1) c6] 22) O6.out HM.out (by rw [← hR]; exact hown7) (by rw [← hR]; exact hg7)
            have hB7 : Below w.heap.size w w7 := (HB1.out.trans ((B6.out.mono HB1.out.size).trans ((Below.refl _ _).alloc (by have := HB1.out.size; have := B6.out.size; omega) _))).trans hbel7
            go_roundg (gk - 1)
            case measure => omega
            case rel => exact ⟨j + 1, R' + 1, A7, c7, updN f' (procJ T i j).length (A6, c6), by go_num, rfl, by omega, by omega, by rw [E.out, List.length_append, hR]; rfl, by rw [E.out]; exact hadd.1, by rw [E.out]; exact hadd.2, hB7, by rw [updN, if_neg (by have := HIT2.out; omega)]; exact HF'.out⟩
        · have e : j = m := by omega
          subst e
          have E := Lib.hid (HJE.out)
          have hz := HNX.out
          rw [← HJE.out] at hz
          have HZ2 := Lib.hid hz
          clear hcell hrow hz HTF HJS HJE HJP HGI HJT HP3 HFA HIT HRUN HNX
          go_wp2
          go_roundg (400 - i)
          case measure => omega
          case rel => exact ⟨i + 1, R', procJ T i j, _, c', f', by go_num, rfl, by omega, by omega, HR'.out, OW'.out, AD'.out, BE'.out, HZ2.out⟩
    · have hrun := RUN.out
      rw [runW_end (by rw [← HR.out]; exact hlt)] at hrun
      have HRN := Lib.hid hrun
      have iiR : ¬ (i : Int) < (R : Int) := by omega
      clear hrun hTf hpre RUN
      go_wp2
      go_ret
      have e := HRN.out
      subst e
      have e2 := HR.out
      subst e2
      exact ⟨A, c, rfl, ⟨f, OWN.out⟩, BEL.out⟩
end Go.Proofs.Ytbbjgcagkmlngab
/- What is in both of two chains. -/
namespace Go.Proofs.Ytbbjgcagkmlngab
open Go.RowKit

theorem hasI_mem (l : List Int) (n : Int) : hasI l n = decide (n ∈ l) := by unfold hasI; exact List.contains_eq_mem n l
def metK (a b : List Int) (k : Nat) : List Int := (a.take k).filter fun n => hasI b n
def met (a b : List Int) : List Int := a.filter fun n => hasI b n
theorem metK_end (a b : List Int) : metK a b a.length = met a b := by unfold metK met; rw [List.take_length]
theorem metK_hit {a b : List Int} {k : Nat} (hk : k < a.length) (h : hasI b (a.getD k 0) = true) : metK a b (k + 1) = metK a b k ++ [a.getD k 0] := by
  unfold metK
  rw [take_succ_getD hk, List.filter_append]
  simp only [List.filter_cons, List.filter_nil, h]
  rfl
theorem metK_miss {a b : List Int} {k : Nat} (hk : k < a.length) (h : hasI b (a.getD k 0) = false) : metK a b (k + 1) = metK a b k := by
  unfold metK
  rw [take_succ_getD hk, List.filter_append]
  simp only [List.filter_cons, List.filter_nil, h]
  simp
theorem metK_le (a b : List Int) (k : Nat) : (metK a b k).length ≤ k := by
  unfold metK
  exact Nat.le_trans (List.length_filter_le _ _) (by simp; omega)
theorem met_le (a b : List Int) : (met a b).length ≤ a.length := List.length_filter_le _ _
def meG (a b : List Int) : Bool := (chG a && chG b) && chG (met a b)

end Go.Proofs.Ytbbjgcagkmlngab
/- A number put into a rising list, by the model. -/
namespace Go.Proofs.Ytbbjgcagkmlngab
open Go.RowKit

theorem Rd.drop {w : World} {B : Nat} {b off k : Nat} {l : List Int} (h : Rd w B 1 (some ⟨b, off, none⟩) l.length (l.map I)) (hk : k < l.length) : Rd w B 1 (some ⟨b, off + k, none⟩) (l.length - k) ((l.drop k).map I) := by
  refine ⟨by simp, fun _ => ?_⟩
  obtain ⟨b', off', e, hb, hc⟩ := h.2 (by omega)
  simp only [Option.some.injEq, Addr.mk.injEq, and_true] at e
  obtain ⟨rfl, rfl⟩ := e
  refine ⟨b, off + k, rfl, hb, fun j hj => ?_⟩
  rw [Nat.add_assoc, hc (k + j) (by omega), List.map_drop, List.getElem?_drop]
theorem put_below2 {B : Nat} {w : World} {o1 o2 : Obj} {w2 w3 : World} (hB : B ≤ w.heap.size) (h2 : Below B (w.alloc o1) w2) (h3 : Below B (w2.alloc o2) w3) : Below B w w3 := by
  have h1 : Below B w w2 := ((Below.refl _ _).alloc hB _).trans h2
  exact (h1.alloc (Nat.le_trans hB h1.size) _).trans h3

set_option maxRecDepth 100000 in
set_option maxHeartbeats 2000000 in
theorem l1PutN_any (B : Nat) (A : Option Addr) (c : Nat) (l : List Int) (x : Int) (w : World) (hm : l.length ≤ 1000) (ha : Asc l) (hx : ¬ x ∈ l) (hcap : l.length ≤ c) (hB : B ≤ w.heap.size) (hr : Rd w B 1 A l.length (l.map I)) :
    Calls Try.prog 132 #[.slice A l.length c, .int .i64 x] w fun e w' => ∃ A' c', e = .returned (.slice A' (putI l x).length c') ∧ OwI w' w.heap.size (.slice A' (putI l x).length c') (putI l x) ∧ Below w.heap.size w w' := by
  have H := Lib.hid hr
  obtain ⟨p1, p2⟩ := cnt_parts ha x
  have P1 := Lib.hid p1
  have P2 := Lib.hid p2
  have hcx := cnt_le l x
  have P := Lib.hid (putI_new hx)
  have hpl : (putI l x).length = l.length + 1 := by rw [P.out, insA_length l x hcx]
  have HPL := Lib.hid hpl
  have HX := Lib.hid hx
  obtain ⟨a, haa⟩ : ∃ a, cnt l x = a := ⟨_, rfl⟩
  rw [haa] at hcx
  have AA := Lib.hid haa
  have HAS := Lib.hid ha
  clear hr p1 p2 hpl hx haa ha
  have hbig : (l.length : Int) ≤ 1000 := by omega
  go_enter Try.func132, Try.ntmps132
  go_wp2
  go_loop [5] (fun i => ∃ k : Nat, k ≤ a ∧ i = .int .i64 k) (fun i => a - (intOf i).toNat)
  case atStart => exact ⟨0, by omega, rfl⟩
  case round =>
    obtain ⟨k, hk, rfl⟩ := hrel
    by_cases hka : k < a
    · obtain ⟨b, off, rfl, hb, hc⟩ := H.out.cells (by omega)
      have ck := hc k (by omega)
      have hlt : l.getD k 0 < x := P1.out k (by rw [AA.out]; exact hka)
      obtain ⟨y, hy⟩ : ∃ y, l.getD k 0 = y := ⟨_, rfl⟩
      rw [hy] at ck hlt
      have ik : (k : Int) < (l.length : Int) := by omega
      clear hc hy
      go_wp2
      go_round
      case rel => exact ⟨k + 1, by omega, by go_num⟩
      case measure => simp [intOf]; omega
    · have e : k = a := by omega
      subst e
      have ikc : (k : Int) ≤ (c : Int) := by omega
      have hins : (insA l k x).map I = (l.take k).map I ++ [I x] ++ (l.drop k).map I := by unfold insA; rw [List.map_append, List.map_cons]; simp
      have HINS := Lib.hid hins
      clear hins
      by_cases hl : k < l.length
      · obtain ⟨b, off, rfl, hb, hc⟩ := H.out.cells (by omega)
        have ck := hc k hl
        have hge := P2.out k (by rw [AA.out]; exact Nat.le_refl _) hl
        obtain ⟨y, hy⟩ : ∃ y, l.getD k 0 = y := ⟨_, rfl⟩
        have hne : ¬ y = x := fun h => HX.out (by rw [← h, ← hy]; exact mem_getD hl)
        rw [hy] at ck hge
        have h1 : ¬ y < x := by omega
        have hyx : (y == x) = false := by simpa using hne
        have ik : (k : Int) < (l.length : Int) := by omega
        have ikl : (k : Int) ≤ (l.length : Int) := by omega
        have hcn : ¬ (c = k) := by omega
        have T1 := Lib.hid (fun (W : World) (hb : Below w.heap.size w W) => (H.out.below' hb hB).take (n := k) (by omega))
        have T2 := Lib.hid (fun (W : World) (hb : Below w.heap.size w W) => (H.out.below' hb hB).drop hl)
        clear hc hy hge hne
        go_wp2_with (first
          | (at_builtin; refine list_step (fun K hK => ?_); refine step_appM Try.underlying22 info_int rfl (by omega) (by omega) rfl (.tmp 34) (.tmp 37) rfl w.heap.size 0 _ [] rfl (own_empty 1 (Nat.le_refl _)) _ k _ ((l.take k).map I) rfl (T1.out _ ((Below.refl _ _).alloc (Nat.le_refl _) _)) (ints_one _) (by omega) (by simp) ?_; intro A2 c2 w2 hown2 hg2 hbel2; simp only [Nat.zero_add, List.nil_append] at hown2; go_simp; refine hK _ _ ?_; clear hK K)
          | (at_builtin; refine list_step (fun K hK => ?_); refine step_app1 Try.underlying22 info_int rfl (by omega) rfl (.tmp 39) (.tmp 41) rfl w.heap.size _ _ _ rfl (World.ownsRow.alloc hown2 _) w2.heap.size 1 (I x) rfl (by simp) rfl (by omega) (by have := hbel2.size; simp at this; simp; omega) ?_; intro A3 c3 w3 hown3 hg3 hbel3; go_simp; refine hK _ _ ?_; clear hK K)
          | (at_builtin; refine list_step (fun K hK => ?_); have hb23 := put_below2 (Nat.le_refl _) hbel2 hbel3; refine step_appM Try.underlying22 info_int rfl (by omega) (by omega) rfl (.tmp 43) (.tmp 46) rfl w.heap.size _ _ _ rfl hown3 _ (l.length - k) _ ((l.drop k).map I) rfl (T2.out _ hb23) (ints_one _) (by omega) hb23.size ?_; intro A4 c4 w4 hown4 hg4 hbel4; go_simp; refine hK _ _ ?_; clear hK K))
        go_ret
        refine ⟨A4, c4, ret_slice (by have := HPL.out; omega), ?_, (put_below2 (Nat.le_refl _) hbel2 hbel3).trans hbel4⟩
        have h := hown4
        rw [show k + 1 + (l.length - k) = (putI l x).length by have := HPL.out; omega] at h
        unfold OwI
        rw [P.out, AA.out, HINS.out] at *
        simpa using h
      · have e : k = l.length := by omega
        have T1 := Lib.hid (fun (W : World) (hb : Below w.heap.size w W) => (H.out.below' hb hB).take (n := k) (by omega))
        have HE := Lib.hid e
        have hfin : ∀ (A4 : Option Addr) (c4 : Nat) (w4 : World), w4.ownsRow w.heap.size 3 1 (.slice A4 (k + 1 + 0) c4) (k + 1 + 0) ((l.take k).map I ++ [I x] ++ []) → OwI w4 w.heap.size (.slice A4 (putI l x).length c4) (putI l x) := fun A4 c4 w4 h => by
          rw [show k + 1 + 0 = (putI l x).length by have := HPL.out; have := HE.out; omega] at h
          unfold OwI
          have hd : l.drop k = [] := List.drop_of_length_le (by have := HE.out; omega)
          have hi := HINS.out
          rw [hd] at hi
          rw [P.out, AA.out, hi] at *
          simpa using h
        have FIN := Lib.hid hfin
        obtain ⟨N, hN⟩ : ∃ N, l.length = N := ⟨_, rfl⟩
        rw [hN] at e
        subst e
        rw [hN] at *
        have HN := Lib.hid hN
        clear hfin hN
        have hsl : ∀ n : Nat, n - n = 0 := fun n => Nat.sub_self n
        by_cases hck : c = k
        · subst hck
          go_wp2_with (first
            | (at_builtin; refine list_step (fun K hK => ?_); refine step_appM Try.underlying22 info_int rfl (by omega) (by omega) rfl (.tmp 34) (.tmp 37) rfl w.heap.size 0 _ [] rfl (own_empty 1 (Nat.le_refl _)) _ c _ ((l.take c).map I) rfl (T1.out _ ((Below.refl _ _).alloc (Nat.le_refl _) _)) (ints_one _) (by omega) (by simp) ?_; intro A2 c2 w2 hown2 hg2 hbel2; simp only [Nat.zero_add, List.nil_append] at hown2; go_simp; refine hK _ _ ?_; clear hK K)
            | (at_builtin; refine list_step (fun K hK => ?_); refine step_app1 Try.underlying22 info_int rfl (by omega) rfl (.tmp 39) (.tmp 41) rfl w.heap.size _ _ _ rfl (World.ownsRow.alloc hown2 _) w2.heap.size 1 (I x) rfl (by simp) rfl (by omega) (by have := hbel2.size; simp at this; simp; omega) ?_; intro A3 c3 w3 hown3 hg3 hbel3; go_simp; refine hK _ _ ?_; clear hK K)
            | (at_builtin; refine list_step (fun K hK => ?_); have hb23 := put_below2 (Nat.le_refl _) hbel2 hbel3; refine step_appM Try.underlying22 info_int rfl (by omega) (by omega) rfl (.tmp 43) (.tmp 46) rfl w.heap.size _ _ _ rfl hown3 _ 0 _ [] rfl (Rd.nil _ 0 _ _) (by simp) (by omega) hb23.size ?_; intro A4 c4 w4 hown4 hg4 hbel4; go_simp; refine hK _ _ ?_; clear hK K))
          all_goals
            go_ret
            exact ⟨A4, c4, ret_slice (by have := HPL.out; have := HE.out; omega), FIN.out A4 c4 w4 hown4, (put_below2 (Nat.le_refl _) hbel2 hbel3).trans hbel4⟩
        · have hck' : ¬ (k = c) := fun h => hck h.symm
          go_wp2_with (first
            | (at_builtin; refine list_step (fun K hK => ?_); refine step_appM Try.underlying22 info_int rfl (by omega) (by omega) rfl (.tmp 34) (.tmp 37) rfl w.heap.size 0 _ [] rfl (own_empty 1 (Nat.le_refl _)) _ k _ ((l.take k).map I) rfl (T1.out _ ((Below.refl _ _).alloc (Nat.le_refl _) _)) (ints_one _) (by omega) (by simp) ?_; intro A2 c2 w2 hown2 hg2 hbel2; simp only [Nat.zero_add, List.nil_append] at hown2; go_simp; refine hK _ _ ?_; clear hK K)
            | (at_builtin; refine list_step (fun K hK => ?_); refine step_app1 Try.underlying22 info_int rfl (by omega) rfl (.tmp 39) (.tmp 41) rfl w.heap.size _ _ _ rfl (World.ownsRow.alloc hown2 _) w2.heap.size 1 (I x) rfl (by simp) rfl (by omega) (by have := hbel2.size; simp at this; simp; omega) ?_; intro A3 c3 w3 hown3 hg3 hbel3; go_simp; refine hK _ _ ?_; clear hK K)
            | (at_builtin; refine list_step (fun K hK => ?_); have hb23 := put_below2 (Nat.le_refl _) hbel2 hbel3; refine step_appM Try.underlying22 info_int rfl (by omega) (by omega) rfl (.tmp 43) (.tmp 46) rfl w.heap.size _ _ _ rfl hown3 _ 0 _ [] rfl (Rd.nil _ 0 _ _) (by simp) (by omega) hb23.size ?_; intro A4 c4 w4 hown4 hg4 hbel4; go_simp; refine hK _ _ ?_; clear hK K))
          all_goals
            go_ret
            exact ⟨A4, c4, ret_slice (by have := HPL.out; have := HE.out; omega), FIN.out A4 c4 w4 hown4, (put_below2 (Nat.le_refl _) hbel2 hbel3).trans hbel4⟩
end Go.Proofs.Ytbbjgcagkmlngab
/- The search through star chains, whatever its two steps do. -/
namespace Go.Proofs.Ytbbjgcagkmlngab
open Go.RowKit

/-- What is met one after the other, with a state. -/
def runD {σ : Type} (step : σ → List Nat → σ) (go : σ → Bool) : σ → List (List Nat) → σ
  | s, [] => s
  | s, c :: R => if go (step s c) then runD step go (step s c) R else step s c
theorem runD_go {σ : Type} {step : σ → List Nat → σ} {go : σ → Bool} {s : σ} {c : List Nat} {R : List (List Nat)} (h : go (step s c) = true) : runD step go s (c :: R) = runD step go (step s c) R := if_pos h
theorem runD_stop {σ : Type} {step : σ → List Nat → σ} {go : σ → Bool} {s : σ} {c : List Nat} {R : List (List Nat)} (h : go (step s c) = false) : runD step go s (c :: R) = step s c := by
  show (if _ then _ else _) = _
  rw [h]
  rfl

/-- All blocks but those of X lie as they lay. -/
structure Frm (X : Nat → Prop) (w w' : World) : Prop where
  size : w.heap.size ≤ w'.heap.size
  block : ∀ b, b < w.heap.size → ¬ X b → w'.heap[b]? = w.heap[b]?
theorem Frm.refl (X : Nat → Prop) (w : World) : Frm X w w := ⟨Nat.le_refl _, fun _ _ _ => rfl⟩
theorem Frm.trans {X : Nat → Prop} {a b c : World} (h : Frm X a b) (h' : Frm X b c) : Frm X a c :=
  ⟨Nat.le_trans h.size h'.size, fun k hk hx => (h'.block k (by have := h.size; omega) hx).trans (h.block k hk hx)⟩
theorem Frm.of_below {X : Nat → Prop} {w w' : World} (h : Below w.heap.size w w') : Frm X w w' := ⟨h.size, fun b hb _ => h.block b hb⟩
theorem Frm.of_grown {X : Nat → Prop} {w w' : World} {g : Nat} (h : w.grownBy w' (some g)) (hx : X g) : Frm X w w' :=
  ⟨h.size, fun b hb hn => h.block b hb (by intro e; injection e with e; subst e; exact hn hx)⟩
theorem Frm.set {X : Nat → Prop} {w : World} {g o : Nat} {u : Value} (hx : X g) : Frm X w (w.setCell ⟨g, o, none⟩ u) :=
  Frm.of_grown (grown_set (World.grownBy.refl w (some g)) u) hx

/-- What is asked of the two steps: of numbers that fit, and of what is met. -/
structure Steps (B : Nat) (F : Nat → Nat → Bool) (L gf gm : Nat) (lf lm : Array Value) {σ : Type} (step : σ → List Nat → σ) (go : σ → Bool) (Inv : Nat → σ → (Nat → Prop) → World → Prop) : Prop where
  frame : ∀ r s X X' w w', Inv r s X w → Frm X w w' → (∀ b, X' b → X b ∨ w.heap.size ≤ b) → Inv r s X' w'
  fits : ∀ r s X w (n i : Nat), Inv r s X w → 1 ≤ n → n ≤ 2 ^ i → i ≤ L + 1 → Calls Try.prog gf (#[.int .i64 (n : Int), .int .i64 (i : Int)] ++ lf) w fun e w' => e = .returned (.bool (F n i)) ∧ Dr w w'
  meet : ∀ r s X w gc cc (c : List Nat) (m : Nat), Inv (r + 1) s X w → X gc → (∀ b, X b → b < w.heap.size) → c.length = m → 1 ≤ m → m ≤ L + 1 → (∀ i, i < m → 1 ≤ c.getD i 0 ∧ c.getD i 0 ≤ 2 ^ i) → B ≤ w.heap.size → OwI w B (.slice (some ⟨gc, 0, none⟩) m cc) (cs c) →
    Calls Try.prog gm (#[.slice (some ⟨gc, 0, none⟩) m cc] ++ lm) w fun e w' => e = .returned (.bool (go (step s c))) ∧ Inv r (step s c) X w' ∧ Below B w w' ∧ w.heap.size ≤ w'.heap.size ∧ ∀ b, X b → b < w.heap.size → w'.heap[b]? = w.heap[b]?

/-- The search's own memory. -/
structure RS (B : Nat) (wr : World) (v1 v2 : Value) (gs gc gn cc cn m L : Nat) (c x : List Nat) : Prop where
  s1 : wr.cell? ⟨gs, 0, none⟩ = some v1
  s2 : wr.cell? ⟨gs, 1, none⟩ = some v2
  hs : gs < wr.heap.size
  oc : OwI wr B (.slice (some ⟨gc, 0, none⟩) m cc) (cs c)
  on : OwI wr B (.slice (some ⟨gn, 0, none⟩) m cn) (cs x)
  lc : c.length = m
  lx : x.length = m
  m1 : 1 ≤ m
  mL : m ≤ L + 1
  n1 : gs ≠ gc
  n2 : gs ≠ gn
  n3 : gc ≠ gn
  bd : ∀ i, i < m → 1 ≤ c.getD i 0 ∧ c.getD i 0 ≤ 2 ^ i
section
variable {B : Nat} {w wr wr' : World} {v1 v2 : Value} {gs gc gn cc cn m L : Nat} {c x : List Nat}
theorem RS.keep (h : RS B wr v1 v2 gs gc gn cc cn m L c x) (hk : ∀ b, b = gs ∨ b = gc ∨ b = gn → wr'.heap[b]? = wr.heap[b]?) (hz : wr.heap.size ≤ wr'.heap.size) : RS B wr' v1 v2 gs gc gn cc cn m L c x :=
  ⟨(cell_heap (p := ⟨gs, 0, none⟩) (hk gs (.inl rfl))).trans h.s1, (cell_heap (p := ⟨gs, 1, none⟩) (hk gs (.inl rfl))).trans h.s2, by have := h.hs; omega, own_heap h.oc (hk gc (.inr (.inl rfl))), own_heap h.on (hk gn (.inr (.inr rfl))), h.lc, h.lx, h.m1, h.mL, h.n1, h.n2, h.n3, h.bd⟩
theorem RS.below (h : RS B wr v1 v2 gs gc gn cc cn m L c x) (hb : Below wr.heap.size wr wr') : RS B wr' v1 v2 gs gc gn cc cn m L c x :=
  h.keep (fun b hb' => hb.block b (by rcases hb' with rfl | rfl | rfl; exact h.hs; exact (own_lt h.oc).2; exact (own_lt h.on).2)) hb.size
theorem RS.store (h : RS B wr v1 v2 gs gc gn cc cn m L c x) (e v : Nat) : wr.frozen? ⟨gn, e, none⟩ = false ∧ RS B (wr.setCell ⟨gn, e, none⟩ (.int .i64 (v : Int))) v1 v2 gs gc gn cc cn m L c (x.set e v) := by
  obtain ⟨f1, f2⟩ := own_store (x := (v : Int)) (i := e) h.on (by rw [cs_len]; exact h.lx)
  have hcs : (cs x).set e (v : Int) = cs (x.set e v) := by simp [cs, List.map_set]
  rw [hcs] at f2
  have hg : Frm (fun b => b = gn) wr (wr.setCell ⟨gn, e, none⟩ (.int .i64 (v : Int))) := Frm.set rfl
  have k1 := hg.block gs h.hs h.n2
  have k2 := hg.block gc (own_lt h.oc).2 h.n3
  exact ⟨f1, (cell_heap (p := ⟨gs, 0, none⟩) k1).trans h.s1, (cell_heap (p := ⟨gs, 1, none⟩) k1).trans h.s2, by have := h.hs; have := hg.size; omega, own_heap h.oc k2, f2, h.lc, by rw [List.length_set]; exact h.lx, h.m1, h.mL, h.n1, h.n2, h.n3, h.bd⟩
theorem RS.cellc (h : RS B wr v1 v2 gs gc gn cc cn m L c x) {i : Nat} (hi : i < m) : wr.cell? ⟨gc, i, none⟩ = some (.int .i64 ((c.getD i 0 : Nat) : Int)) := by
  obtain ⟨g, hg, _, _, hc⟩ := own_cells h.oc (by rw [cs_len]; exact h.lc) (by have := h.m1; omega)
  injection hg with hg
  injection hg with hg
  subst hg
  rw [hc i hi, cs_getD]
theorem RS.celln (h : RS B wr v1 v2 gs gc gn cc cn m L c x) {i : Nat} (hi : i < m) : wr.cell? ⟨gn, i, none⟩ = some (.int .i64 ((x.getD i 0 : Nat) : Int)) := by
  obtain ⟨g, hg, _, _, hc⟩ := own_cells h.on (by rw [cs_len]; exact h.lx) (by have := h.m1; omega)
  injection hg with hg
  injection hg with hg
  subst hg
  rw [hc i hi, cs_getD]
theorem RS.tc (h : RS B wr v1 v2 gs gc gn cc cn m L c x) {e : Nat} (he : e + 1 ≤ m) : OwI wr B (.slice (some ⟨gc, 0, none⟩) (e + 1) cc) ((cs c).take (e + 1)) ∧ ((cs c).take (e + 1)).length = e + 1 ∧ m ≤ cc ∧ m ≤ cn := by
  have hl : (cs c).length = m := by rw [cs_len]; exact h.lc
  have hlx : (cs x).length = m := by rw [cs_len]; exact h.lx
  have h1 := h.oc
  have h2 := h.on
  refine ⟨?_, by rw [List.length_take]; omega, ?_, ?_⟩
  · rw [← hl] at h1
    exact own_take h1 (by omega)
  · have := OwI.cap h1
    omega
  · have := OwI.cap h2
    omega
theorem hat_in {w1 : World} {g g2 n k : Nat} (h : (Value.slice (some ⟨g, 0, none⟩) n k).ownBlock = some g2 ∨ g2 = w1.heap.size) : g = g2 ∨ w1.heap.size ≤ g2 := by
  rcases h with h | h
  · exact .inl (by simpa [Value.ownBlock] using h)
  · exact .inr (by omega)
/-- A row's beginning and one number more, in place or in a new block; then the other row's. -/
theorem RS.grow {w1 w2 : World} {e s g2 c2 : Nat} (h : RS B wr v1 v2 gs gc gn cc cn m L c x) (he : e + 1 ≤ m) (heL : e + 1 ≤ L) (hs1 : 1 ≤ s) (hs2 : s ≤ 2 ^ (e + 1)) (hb1 : Below wr.heap.size wr w1)
    (hown : OwI w2 B (.slice (some ⟨g2, 0, none⟩) (e + 2) c2) ((cs c).take (e + 1) ++ [(s : Int)])) (hg : w1.grownBy w2 (some gc)) (hat : gc = g2 ∨ w1.heap.size ≤ g2) :
    OwI w2 B (.slice (some ⟨gn, 0, none⟩) (e + 1) cn) ((cs x).take (e + 1)) ∧ (∀ w3 w4 g4 c4 (z : Nat), Below w2.heap.size w2 w3 → OwI w4 B (.slice (some ⟨g4, 0, none⟩) (e + 2) c4) ((cs x).take (e + 1) ++ [(z : Int)]) → w3.grownBy w4 (some gn) → (gn = g4 ∨ w3.heap.size ≤ g4) →
      RS B w4 v1 v2 gs g2 g4 c2 c4 (e + 2) L (c.take (e + 1) ++ [s]) (x.take (e + 1) ++ [z])) := by
  have ltc := (own_lt h.oc).2
  have ltn := (own_lt h.on).2
  have hsz := h.hs
  have z1 := hb1.size
  have z2 := hg.size
  have lt2 := (own_lt hown).2
  have hf : Frm (fun b => b = gc) wr w2 := (Frm.of_below hb1).trans (Frm.of_grown hg rfl)
  have kn := hf.block gn ltn (fun e => h.n3 e.symm)
  have ks := hf.block gs hsz h.n1
  have hxl : (cs x).length = m := by rw [cs_len]; exact h.lx
  refine ⟨?_, ?_⟩
  · have := own_heap h.on kn
    rw [← hxl] at this
    exact own_take this (by rw [hxl]; exact he)
  · intro w3 w4 g4 c4 z hb3 hown4 hg4 hat4
    have z3 := hb3.size
    have z4 := hg4.size
    have hf4 : Frm (fun b => b = gn) w2 w4 := (Frm.of_below hb3).trans (Frm.of_grown hg4 rfl)
    have hne2 : g2 ≠ gn := by
      rcases hat with e | e
      · rw [← e]; exact h.n3
      · omega
    have k2 := hf4.block g2 lt2 hne2
    have ks4 := hf4.block gs (by omega) h.n2
    have lt4 := (own_lt hown4).2
    have t1 : (cs c).take (e + 1) ++ [(s : Int)] = cs (c.take (e + 1) ++ [s]) := by rw [cs_snoc]; simp [cs, List.map_take]
    have t2 : (cs x).take (e + 1) ++ [(z : Int)] = cs (x.take (e + 1) ++ [z]) := by rw [cs_snoc]; simp [cs, List.map_take]
    have lct : (c.take (e + 1)).length = e + 1 := by rw [List.length_take, h.lc]; omega
    have lxt : (x.take (e + 1)).length = e + 1 := by rw [List.length_take, h.lx]; omega
    refine ⟨(cell_heap (p := ⟨gs, 0, none⟩) (ks4.trans ks)).trans h.s1, (cell_heap (p := ⟨gs, 1, none⟩) (ks4.trans ks)).trans h.s2, by omega, ?_, by rw [← t2]; exact hown4, by rw [List.length_append, lct]; rfl, by rw [List.length_append, lxt]; rfl, by omega, by omega, ?_, ?_, ?_, ?_⟩
    · rw [← t1]
      exact own_heap hown k2
    · rcases hat with e | e
      · rw [← e]; exact h.n1
      · omega
    · rcases hat4 with e | e
      · rw [← e]; exact h.n2
      · omega
    · rcases hat4 with e | e
      · rw [← e]; exact hne2
      · omega
    · intro i hi
      rcases Nat.lt_or_ge i (e + 1) with hlt | hge
      · rw [List.getD_eq_getElem?_getD, List.getElem?_append_left (by omega), List.getElem?_take_of_lt hlt, ← List.getD_eq_getElem?_getD]
        exact h.bd i (by omega)
      · have ei : i = e + 1 := by omega
        subst ei
        rw [List.getD_eq_getElem?_getD, List.getElem?_append_right (by omega), lct]
        simp only [Nat.sub_self, List.getElem?_cons_zero, Option.getD_some]
        exact ⟨hs1, hs2⟩
end
end Go.Proofs.Ytbbjgcagkmlngab
/- The search through star chains, walked. -/
namespace Go.Proofs.Ytbbjgcagkmlngab
open Go.RowKit

theorem two13 {i L : Nat} (hL : L ≤ 12) (hi : i ≤ L + 1) : 2 ^ i ≤ 8192 := Nat.pow_le_pow_right (n := 2) (by decide) (show i ≤ 13 by omega)
theorem sum_bd {c : List Nat} {m e j : Nat} (h : ∀ i, i < m → 1 ≤ c.getD i 0 ∧ c.getD i 0 ≤ 2 ^ i) (he : e < m) (hj : j ≤ e) : 1 ≤ c.getD e 0 + c.getD j 0 ∧ c.getD e 0 + c.getD j 0 ≤ 2 ^ (e + 1) := by
  have h1 := h e he
  have h2 := h j (by omega)
  have h3 : 2 ^ j ≤ 2 ^ e := Nat.pow_le_pow_right (by decide) hj
  rw [Nat.pow_succ]
  omega

end Go.Proofs.Ytbbjgcagkmlngab
/- Numbers that are live. -/
namespace Go.Proofs.Ytbbjgcagkmlngab
open Go.RowKit

theorem fitN_no1 {n L s i : Nat} (h : ¬ i ≤ L) : fitN n L s i = false := by unfold fitN; rw [decide_eq_false_iff_not]; exact fun h' => h h'.1
theorem fitN_no2 {n L s i : Nat} (h : ¬ s ≤ n) : fitN n L s i = false := by unfold fitN; rw [decide_eq_false_iff_not]; exact fun h' => h h'.2.1
theorem fitN_val {n L s i : Nat} (h : i ≤ L) (h2 : s ≤ n) : fitN n L s i = decide (n ≤ s * 2 ^ (L - i)) := by
  unfold fitN
  rw [Bool.eq_iff_iff, decide_eq_true_eq, decide_eq_true_eq]
  exact ⟨fun h' => h'.2.2, fun h' => ⟨h, h2, h'⟩⟩
end Go.Proofs.Ytbbjgcagkmlngab
/- The first star chains with an end, at most so many: what is done with each that is met. -/
namespace Go.Proofs.Ytbbjgcagkmlngab
open Go.RowKit

theorem own_keepG {w w' : World} {B e sz n : Nat} {v : Value} {xs : List Value} (h : w.ownsRow B e sz v n xs) (hk : ∀ g, v.ownBlock = some g → w'.heap[g]? = w.heap[g]?) : w'.ownsRow B e sz v n xs := by
  refine ⟨h.1, ?_⟩
  rcases h.2 with h0 | ⟨g, cap, cur, hv, hb, hg, r⟩
  · exact .inl h0
  · exact .inr ⟨g, cap, cur, hv, hb, (hk g (by rw [hv]; rfl)).trans hg, r⟩
/-- A box of another type is not the row's block. -/
theorem own_nbox {w : World} {B e sz n b : Nat} {t : TypeId} {v u : Value} {xs : List Value} (h : w.ownsRow B e sz v n xs) (hb : w.heap[b]? = some (.cells #[u] t (0, 0))) (hne : e ≠ t) : ∀ g, v.ownBlock = some g → g ≠ b := by
  intro g hg e'
  subst e'
  rcases h.2 with ⟨rfl, _⟩ | ⟨g', cap, cur, hv, _, hh, _⟩
  · cases hg
  · rw [hv] at hg
    have e1 : g' = g := by simpa [Value.ownBlock] using hg
    subst e1
    rw [hb] at hh
    injection hh with hh
    injection hh with _ h2
    exact hne h2.symm

section
variable {ops : Array Oper} {o : Oper} {a : Act} {Q : Exit → Act → World → Prop} {w : World}
/-- append(v, x) of one list onto an own row of lists, and where the new row lies. -/
theorem step_app_rowH {K : Act → World → Prop} {E : Prop} (hgd : o.guard = none) (s x : Operand)
    (ho : o.op = .call { callee := .builtin .append, args := #[s, x], argTypes := #[56, 56] })
    (B n : Nat) (v : Value) (xs : List Value) (hs : a.eval s = v) (hown : w.ownsRow B 22 1 v n xs) (b c : Nat) (u : Value) (h1 : u.oneCell' = true) (hx : a.eval x = .slice (some ⟨b, 0, none⟩) 1 c)
    (hu : w.cell? ⟨b, 0, none⟩ = some u) (hn : n ≤ 4000000) (hB : B ≤ w.heap.size)
    (h : ∀ g cap w', w'.ownsRow B 22 1 (.slice (some ⟨g, 0, none⟩) (n + 1) cap) (n + 1) (xs ++ [u]) → w.grownBy w' v.ownBlock → Below B w w' → (v.ownBlock = some g ∨ g = w.heap.size) → K (a.put o.dst (.slice (some ⟨g, 0, none⟩) (n + 1) cap)) w') :
    if Region.wanted o (yielded ops a.tmps) = true then Oper.wp Try.prog o a w K Q else E := by
  obtain ⟨i0, hi, hz0, hz1, hz2⟩ := info_parts info_ints
  refine step_append_lies _ hgd s x _ ho B 22 i0 _ 1 24 Try.underlying56 hi hz0 hz1 hz2 rfl (by omega) v n xs hs hown ⟨b, 0, none⟩ 1 c [u] hx rfl ?_ ?_ (by omega) (by unfold maxLen; omega) (by omega) hB w.heap.size rfl ?_
  · intro j y hj
    match j, hj with
    | 0, hj => simp at hj; subst hj; simpa [Addr.add] using hu
  · intro y hy; simp at hy; subst hy; exact h1
  · intro g cap w' hown' hg hat _
    exact h g cap w' hown' hg (below_of_own hown hB hg) hat
end

/-- The memory of the first ones that were found. -/
structure FI (B n L most bL bn bl bC bM K : Nat) (r : Nat) (s : List (List Nat)) (X : Nat → Prop) (w : World) : Prop where
  hL : w.heap[bL]? = some (.cells #[.int .i64 (L : Int)] 3 (0, 0))
  hl : w.heap[bl]? = some (.cells #[.int .i64 (L : Int)] 3 (0, 0))
  hn : w.heap[bn]? = some (.cells #[.int .i64 (n : Int)] 3 (0, 0))
  hM : w.heap[bM]? = some (.cells #[.int .i64 (most : Int)] 3 (0, 0))
  hC : ∃ A c f, w.heap[bC]? = some (.cells #[.slice A s.length c] 56 (0, 0)) ∧ OwL w B A c f (L + 1) s.length (fun i => cs (s.getD i [])) ∧ Far f (L + 1) s.length ∧
    (∀ g, (Value.slice A s.length c).ownBlock = some g → ¬ X g) ∧ (∀ i, i < s.length → ∀ g, (Value.slice (f i).1 (L + 1) (f i).2).ownBlock = some g → ¬ X g)
  lt : ∀ b, b = bL ∨ b = bl ∨ b = bn ∨ b = bM ∨ b = bC → b < w.heap.size ∧ ¬ X b
  ne : bL ≠ bC ∧ bl ≠ bC ∧ bn ≠ bC ∧ bM ≠ bC
  bB : B ≤ bC
  cnt : s.length + r ≤ K

theorem FI.frame {B n L most bL bn bl bC bM K r : Nat} {s : List (List Nat)} {X X' : Nat → Prop} {w w' : World} (h : FI B n L most bL bn bl bC bM K r s X w) (F : Frm X w w') (hX : ∀ b, X' b → X b ∨ w.heap.size ≤ b) :
    FI B n L most bL bn bl bC bM K r s X' w' := by
  have hx : ∀ b, b < w.heap.size → ¬ X b → ¬ X' b := fun b h1 h2 h3 => by
    rcases hX b h3 with h | h
    · exact h2 h
    · omega
  have hk : ∀ b, b = bL ∨ b = bl ∨ b = bn ∨ b = bM ∨ b = bC → w'.heap[b]? = w.heap[b]? := fun b hb => F.block b (h.lt b hb).1 (h.lt b hb).2
  obtain ⟨A, c, f, h1, h2, h3, h4, h5⟩ := h.hC
  refine ⟨(hk bL (.inl rfl)).trans h.hL, (hk bl (.inr (.inl rfl))).trans h.hl, (hk bn (.inr (.inr (.inl rfl)))).trans h.hn, (hk bM (.inr (.inr (.inr (.inl rfl))))).trans h.hM,
    ⟨A, c, f, (hk bC (.inr (.inr (.inr (.inr rfl))))).trans h1, ⟨?_, ?_⟩, h3, ?_, ?_⟩, ?_, h.ne, h.bB, h.cnt⟩
  · exact own_keepG h2.1 fun g hg => F.block g (own_block h2.1 g hg).2 (h4 g hg)
  · exact fun i hi => own_keepG (h2.2 i hi) fun g hg => F.block g (own_block (h2.2 i hi) g hg).2 (h5 i hi g hg)
  · exact fun g hg => hx g (own_block h2.1 g hg).2 (h4 g hg)
  · exact fun i hi g hg => hx g (own_block (h2.2 i hi) g hg).2 (h5 i hi g hg)
  · intro b hb
    have := F.size
    have := (h.lt b hb)
    exact ⟨by omega, hx b this.1 this.2⟩

/-- One list more. -/
theorem FI.add {B n L most bL bn bl bC bM K r : Nat} {s : List (List Nat)} {X : Nat → Prop} {w w2 w4 : World} {c0 : List Nat} {A A1 : Option Addr} {c c1 g4 c4 : Nat} {f : Nat → Option Addr × Nat} {o : Obj}
    (h : FI B n L most bL bn bl bC bM K (r + 1) s X w) (hXw : ∀ b, X b → b < w.heap.size) (hB : B ≤ w.heap.size)
    (h1 : w.heap[bC]? = some (.cells #[.slice A s.length c] 56 (0, 0))) (h2 : OwL w B A c f (L + 1) s.length (fun i => cs (s.getD i []))) (h3 : Far f (L + 1) s.length)
    (h4 : ∀ g, (Value.slice A s.length c).ownBlock = some g → ¬ X g) (h5 : ∀ i, i < s.length → ∀ g, (Value.slice (f i).1 (L + 1) (f i).2).ownBlock = some g → ¬ X g)
    (hb2 : Below w.heap.size w w2) (hrow : w2.ownsRow w.heap.size 3 1 (.slice A1 (L + 1) c1) (L + 1) ((cs c0).map I))
    (hown : w4.ownsRow B 22 1 (.slice (some ⟨g4, 0, none⟩) (s.length + 1) c4) (s.length + 1) (TT f (L + 1) s.length ++ [.slice A1 (L + 1) c1]))
    (hg : (w2.alloc o).grownBy w4 (Value.slice A s.length c).ownBlock) (hat : (Value.slice A s.length c).ownBlock = some g4 ∨ g4 = (w2.alloc o).heap.size) :
    w4.heap[bC]? = some (.cells #[.slice A s.length c] 56 (0, 0)) ∧ FI B n L most bL bn bl bC bM K r (s ++ [c0]) X (w4.setCell ⟨bC, 0, none⟩ (.slice (some ⟨g4, 0, none⟩) (s.length + 1) c4)) ∧
      (∀ b, X b → b < w.heap.size → (w4.setCell ⟨bC, 0, none⟩ (.slice (some ⟨g4, 0, none⟩) (s.length + 1) c4)).heap[b]? = w.heap[b]?) ∧ w.heap.size ≤ w4.heap.size := by
  have hz2 := hb2.size
  have hz3 : (w2.alloc o).heap.size = w2.heap.size + 1 := by simp
  have hz4 := hg.size
  have hbC := h.lt bC (.inr (.inr (.inr (.inr rfl))))
  have hnA := own_nbox h2.1 h1 (by decide)
  -- a block that is old, and not the row's, stays
  have hold : ∀ b, b < w.heap.size → (Value.slice A s.length c).ownBlock ≠ some b → w4.heap[b]? = w.heap[b]? := fun b hb hne =>
    ((hg.block b (by omega) (fun e => hne e.symm)).trans (Below.heap_alloc w2 o b (by omega))).trans (hb2.block b hb)
  have hCA : (Value.slice A s.length c).ownBlock ≠ some bC := fun e => hnA bC e rfl
  have hC4 := (hold bC hbC.1 hCA).trans h1
  have hset : ∀ b, b ≠ bC → (w4.setCell ⟨bC, 0, none⟩ (.slice (some ⟨g4, 0, none⟩) (s.length + 1) c4)).heap[b]? = w4.heap[b]? := fun b hb => Below.heap_setCell w4 ⟨bC, 0, none⟩ _ b hb
  have hg4 : g4 ≠ bC := by
    rcases hat with e | e
    · exact hnA g4 e
    · omega
  have hnx4 : ¬ X g4 := by
    rcases hat with e | e
    · exact h4 g4 e
    · intro hx
      have := hXw g4 hx
      omega
  have hbox : ∀ b, b = bL ∨ b = bl ∨ b = bn ∨ b = bM → (w4.setCell ⟨bC, 0, none⟩ (.slice (some ⟨g4, 0, none⟩) (s.length + 1) c4)).heap[b]? = w.heap[b]? := fun b hb => by
    have hb' : b = bL ∨ b = bl ∨ b = bn ∨ b = bM ∨ b = bC := by
      rcases hb with h | h | h | h
      · exact .inl h
      · exact .inr (.inl h)
      · exact .inr (.inr (.inl h))
      · exact .inr (.inr (.inr (.inl h)))
    have hne : b ≠ bC := by
      rcases hb with h' | h' | h' | h' <;> subst h'
      · exact h.ne.1
      · exact h.ne.2.1
      · exact h.ne.2.2.1
      · exact h.ne.2.2.2
    have hz := h.lt b hb'
    refine (hset b hne).trans (hold b hz.1 ?_)
    intro e
    rcases hb with h' | h' | h' | h' <;> subst h'
    · exact own_nbox h2.1 h.hL (by decide) _ e rfl
    · exact own_nbox h2.1 h.hl (by decide) _ e rfl
    · exact own_nbox h2.1 h.hn (by decide) _ e rfl
    · exact own_nbox h2.1 h.hM (by decide) _ e rfl
  have hnew : (w4.setCell ⟨bC, 0, none⟩ (.slice (some ⟨g4, 0, none⟩) (s.length + 1) c4)).ownsRow B 3 1 (.slice A1 (L + 1) c1) (L + 1) ((cs c0).map I) := by
    have r1 := own_base hrow hB
    have r2 : (w2.alloc o).ownsRow B 3 1 (.slice A1 (L + 1) c1) (L + 1) ((cs c0).map I) := World.ownsRow.alloc r1 _
    have hlt1 := fun g hg => (own_block hrow g hg)
    refine own_keepG r1 fun g hgo => ?_
    have hl := hlt1 g hgo
    refine (hset g (by omega)).trans ((hg.block g (by omega) ?_).trans (Below.heap_alloc w2 o g hl.2))
    intro e
    have := own_block h2.1 g e.symm
    omega
  refine ⟨hC4, ⟨(hbox bL (.inl rfl)).trans h.hL, (hbox bl (.inr (.inl rfl))).trans h.hl, (hbox bn (.inr (.inr (.inl rfl)))).trans h.hn, (hbox bM (.inr (.inr (.inr rfl)))).trans h.hM, ?_, ?_, h.ne, h.bB, by have := h.cnt; rw [List.length_append, List.length_singleton]; omega⟩, ?_, by omega⟩
  · refine ⟨some ⟨g4, 0, none⟩, c4, upd f s.length (A1, c1), ?_, ⟨?_, ?_⟩, ?_, ?_, ?_⟩
    · rw [List.length_append, List.length_singleton]
      exact one_setCell hC4
    · rw [List.length_append, List.length_singleton, TT_upd]
      exact ownsRow_setCell_other hown (by simp only [Value.ownBlock, ne_eq, Option.some.injEq]; exact hg4) _
    · intro i hi
      rw [List.length_append, List.length_singleton] at hi
      rcases Nat.lt_or_ge i s.length with hlt | hge
      · have e : upd f s.length (A1, c1) i = f i := by simp [upd, show i ≠ s.length by omega]
        have e2 : (s ++ [c0]).getD i [] = s.getD i [] := by rw [List.getD_eq_getElem?_getD, List.getElem?_append_left hlt, ← List.getD_eq_getElem?_getD]
        rw [e]
        show World.ownsRow _ _ _ _ _ _ ((cs ((s ++ [c0]).getD i [])).map I)
        rw [e2]
        have hri := h2.2 i hlt
        refine own_keepG hri fun g hgo => ?_
        have hl := own_block hri g hgo
        refine (hset g (own_nbox hri h1 (by decide) g hgo)).trans (hold g hl.2 ?_)
        intro e3
        rcases own_ne hri h2.1 (by decide) with e4 | e4
        · rw [hgo] at e4; cases e4
        · exact e4 (hgo.trans e3.symm)
      · have ei : i = s.length := by omega
        subst ei
        have e : upd f s.length (A1, c1) s.length = (A1, c1) := by simp [upd]
        have e2 : (s ++ [c0]).getD s.length [] = c0 := by rw [List.getD_eq_getElem?_getD, List.getElem?_concat_length]; rfl
        rw [e]
        show World.ownsRow _ _ _ _ _ _ ((cs ((s ++ [c0]).getD s.length [])).map I)
        rw [e2]
        exact hnew
    · intro i j hi hj hij
      rw [List.length_append, List.length_singleton] at hi hj
      have hnb : ∀ g, (Value.slice A1 (L + 1) c1).ownBlock = some g → w.heap.size ≤ g := fun g hgo => (own_block hrow g hgo).1
      have hob : ∀ k, k < s.length → ∀ g, (Value.slice (f k).1 (L + 1) (f k).2).ownBlock = some g → g < w.heap.size := fun k hk g hgo => (own_block (h2.2 k hk) g hgo).2
      by_cases hi' : i = s.length
      · have hj' : j < s.length := by omega
        subst hi'
        have e : upd f s.length (A1, c1) s.length = (A1, c1) := by simp [upd]
        have e' : upd f s.length (A1, c1) j = f j := by simp [upd, show j ≠ s.length by omega]
        rw [e, e']
        cases hA1 : (Value.slice A1 (L + 1) c1).ownBlock with
        | none => exact .inl rfl
        | some g =>
          right
          intro e3
          have q1 := hnb g hA1
          have q2 := hob j hj' g e3.symm
          omega
      · have e' : upd f s.length (A1, c1) i = f i := by simp [upd, hi']
        by_cases hj' : j = s.length
        · subst hj'
          have e : upd f s.length (A1, c1) s.length = (A1, c1) := by simp [upd]
          rw [e, e']
          cases hA1 : (Value.slice (f i).1 (L + 1) (f i).2).ownBlock with
          | none => exact .inl rfl
          | some g =>
            right
            intro e3
            have q1 := hnb g e3.symm
            have q2 := hob i (by omega) g hA1
            omega
        · have e : upd f s.length (A1, c1) j = f j := by simp [upd, hj']
          rw [e, e']
          exact h3 i j (by omega) (by omega) hij
    · intro g hgo
      have e : g4 = g := by simpa [Value.ownBlock] using hgo
      rw [← e]
      exact hnx4
    · intro i hi g hgo hx
      rw [List.length_append, List.length_singleton] at hi
      by_cases hi' : i = s.length
      · subst hi'
        have e : upd f s.length (A1, c1) s.length = (A1, c1) := by simp [upd]
        rw [e] at hgo
        have q1 := (own_block hrow g hgo).1
        have q2 := hXw g hx
        omega
      · have e' : upd f s.length (A1, c1) i = f i := by simp [upd, hi']
        rw [e'] at hgo
        exact h5 i (by omega) g hgo hx
  · intro b hb
    have h0 := h.lt b hb
    have : (w4.setCell ⟨bC, 0, none⟩ (.slice (some ⟨g4, 0, none⟩) (s.length + 1) c4)).heap.size = w4.heap.size := by simp
    exact ⟨by omega, h0.2⟩
  · intro b hx hb
    refine (hset b (fun e => ?_)).trans (hold b hb ?_)
    · subst e
      exact hbC.2 hx
    · intro e
      exact h4 b e hx
end Go.Proofs.Ytbbjgcagkmlngab
/- One more level of the model's tree. -/
namespace Go.Proofs.Ytbbjgcagkmlngab
open Go.RowKit

/-- All numbers: read, or own. -/
def AllP (w wr : World) (A : Option Addr) (c : Nat) (l : List Int) : Prop := l.length ≤ c ∧ (Rd wr w.heap.size 1 A l.length (l.map I) ∨ OwI wr w.heap.size (.slice A l.length c) l)
theorem AllP.rd {w wr : World} {A : Option Addr} {c : Nat} {l : List Int} (h : AllP w wr A c l) (hs : w.heap.size ≤ wr.heap.size) : Rd wr wr.heap.size 1 A l.length (l.map I) := by
  rcases h.2 with h | h
  · exact h.more hs
  · exact h.rd
theorem AllP.below {w wr wr' : World} {A : Option Addr} {c : Nat} {l : List Int} (h : AllP w wr A c l) (hs : w.heap.size ≤ wr.heap.size) (hb : Below wr.heap.size wr wr') : AllP w wr' A c l :=
  ⟨h.1, h.2.imp (fun h => h.below' hb hs) (fun h => h.below hb)⟩
/-- What is done to a block of another type leaves it as it is. -/
theorem AllP.keep {w wr wr' : World} {A : Option Addr} {c b : Nat} {l : List Int} {t : TypeId} {arr : Array Value} (h : AllP w wr A c l) (hb : wr.heap[b]? = some (.cells arr t (0, 0))) (hne : 3 ≠ t) (hwb : w.heap.size ≤ b) (hz : w.heap.size ≤ wr.heap.size) (hk : ∀ g, g < wr.heap.size → g ≠ b → wr'.heap[g]? = wr.heap[g]?) : AllP w wr' A c l := by
  refine ⟨h.1, h.2.imp (fun h => ?_) (fun h => ?_)⟩
  · exact h.keep fun p hp => cell_heap (hk p.block (by omega) (by omega))
  · exact own_keepG h fun g hg => hk g (own_block h g hg).2 (fun e => own_nblk (show World.ownsRow _ _ _ _ _ _ _ from h) hb hne (by rw [← e]; exact hg))

def gJ (p : List Nat) (st : List (List Nat) × List Int) (j : Nat) : List (List Nat) × List Int := (p.take j).foldl (grA p) st
theorem gJ_succ {p : List Nat} {st : List (List Nat) × List Int} {j : Nat} (h : j < p.length) : gJ p st (j + 1) = grA p (gJ p st j) (p.getD j 0) := by
  unfold gJ
  rw [List.take_succ_eq_append_getElem h, List.foldl_append, List.getD_eq_getElem?_getD, List.getElem?_eq_getElem h]
  rfl
theorem gJ_end (p : List Nat) (st : List (List Nat) × List Int) : gJ p st p.length = grP st p := by
  unfold gJ grP
  rw [List.take_of_length_le (Nat.le_refl _)]
def gI (lev : List (List Nat)) (st : List (List Nat) × List Int) (i : Nat) : List (List Nat) × List Int := (lev.take i).foldl grP st
theorem gI_succ {lev : List (List Nat)} {st : List (List Nat) × List Int} {i : Nat} (h : i < lev.length) : gI lev st (i + 1) = grP (gI lev st i) (lev.getD i []) := by
  unfold gI
  rw [List.take_succ_eq_append_getElem h, List.foldl_append, List.getD_eq_getElem?_getD, List.getElem?_eq_getElem h]
  rfl
theorem gI_end (lev : List (List Nat)) (st : List (List Nat) × List Int) : gI lev st lev.length = lev.foldl grP st := by
  unfold gI
  rw [List.take_of_length_le (Nat.le_refl _)]
/-- What grows. -/
structure GLe (a b : List (List Nat) × List Int) : Prop where
  l : a.1.length ≤ b.1.length
  a : a.2.length ≤ b.2.length
theorem GLe.refl (a : List (List Nat) × List Int) : GLe a a := ⟨Nat.le_refl _, Nat.le_refl _⟩
theorem GLe.trans {a b c : List (List Nat) × List Int} (h : GLe a b) (h' : GLe b c) : GLe a c := ⟨Nat.le_trans h.l h'.l, Nat.le_trans h.a h'.a⟩
theorem putI_ge (l : List Int) (x : Int) : l.length ≤ (putI l x).length := by
  unfold putI
  split
  · exact Nat.le_refl _
  · rw [insA_length l x (cnt_le l x)]
    omega
theorem grA_le (p : List Nat) (st : List (List Nat) × List Int) (a : Nat) : GLe st (grA p st a) := by
  unfold grA
  split
  · exact GLe.refl _
  · exact ⟨by simp, putI_ge _ _⟩
theorem foldA_le (p : List Nat) : ∀ (l : List Nat) (st : List (List Nat) × List Int), GLe st (l.foldl (grA p) st) := by
  intro l
  induction l with
  | nil => intro st; exact GLe.refl _
  | cons a l ih => intro st; exact (grA_le p st a).trans (ih _)
theorem gJ_le (p : List Nat) (st : List (List Nat) × List Int) (j : Nat) : GLe (gJ p st j) (grP st p) := by
  unfold gJ grP
  have h : p.foldl (grA p) st = (p.drop j).foldl (grA p) ((p.take j).foldl (grA p) st) := by rw [← List.foldl_append, List.take_append_drop]
  rw [h]
  exact foldA_le _ _ _
theorem foldP_le : ∀ (l : List (List Nat)) (st : List (List Nat) × List Int), GLe st (l.foldl grP st) := by
  intro l
  induction l with
  | nil => intro st; exact GLe.refl _
  | cons p l ih => intro st; exact (foldA_le p p st).trans (ih _)
theorem gI_le (lev : List (List Nat)) (st : List (List Nat) × List Int) (i : Nat) : GLe (gI lev st i) (lev.foldl grP st) := by
  unfold gI
  have h : lev.foldl grP st = (lev.drop i).foldl grP ((lev.take i).foldl grP st) := by rw [← List.foldl_append, List.take_append_drop]
  rw [h]
  exact foldP_le _ _
theorem grA_asc {p : List Nat} {st : List (List Nat) × List Int} {a : Nat} (h : Asc st.2) : Asc (grA p st a).2 := by
  unfold grA
  split
  · exact h
  · exact putI_asc h _
end Go.Proofs.Ytbbjgcagkmlngab
/- One more level of the model's tree: what is built, and how it grows. -/
namespace Go.Proofs.Ytbbjgcagkmlngab
open Go.RowKit

section
variable {w wr wr' : World} {bX : Nat} {L Aa A2 : Option Addr} {cL ca c2 : Nat} {f : Nat → Option Addr × Nat} {T : List (List Nat)} {l l2 : List Int}
/-- What is built stands in block bX: its rows are own, all numbers are read or own. -/
structure GP (w wr : World) (bX : Nat) (L : Option Addr) (cL : Nat) (f : Nat → Option Addr × Nat) (T : List (List Nat)) (Aa : Option Addr) (ca : Nat) (l : List Int) : Prop where
  hx : wr.heap[bX]? = some (.cells #[.slice L T.length cL, .slice Aa l.length ca] 143 (0, 0))
  rows : OwN wr bX L cL f T
  all : AllP w wr Aa ca l
  lo : w.heap.size ≤ bX
theorem GP.lt (h : GP w wr bX L cL f T Aa ca l) : bX < wr.heap.size := (Array.getElem?_eq_some_iff.1 h.hx).1
theorem GP.below (h : GP w wr bX L cL f T Aa ca l) (hb : Below wr.heap.size wr wr') : GP w wr' bX L cL f T Aa ca l :=
  ⟨(hb.block bX h.lt).trans h.hx, h.rows.below hb, h.all.below (by have := h.lt; have := h.lo; omega) hb, h.lo⟩
theorem OwN.setO {B : Nat} (h : OwN w B L cL f T) {b o : Nat} {arr : Array Value} {t : TypeId} (hb : w.heap[b]? = some (.cells arr t (0, 0))) (h1 : 22 ≠ t) (h2 : 3 ≠ t) (v : Value) : OwN (w.setCell ⟨b, o, none⟩ v) B L cL f T :=
  ⟨ownsRow_setCell_other h.1 (own_nblk h.1 hb h1) v, fun i hi => ownsRow_setCell_other (h.2 i hi) (own_nblk (h.2 i hi) hb h2) v⟩
theorem AllP.setO (h : AllP w wr Aa ca l) {b o : Nat} {arr : Array Value} {t : TypeId} (hb : wr.heap[b]? = some (.cells arr t (0, 0))) (h2 : 3 ≠ t) (hwb : w.heap.size ≤ b) (hz : w.heap.size ≤ wr.heap.size) (v : Value) : AllP w (wr.setCell ⟨b, o, none⟩ v) Aa ca l :=
  h.keep hb h2 hwb hz fun g _ hne => Below.heap_setCell wr ⟨b, o, none⟩ v g hne
theorem GP.cells (h : GP w wr bX L cL f T Aa ca l) : wr.cell? ⟨bX, 0, none⟩ = some (.slice L T.length cL) ∧ wr.cell? ⟨bX, 1, none⟩ = some (.slice Aa l.length ca) ∧ wr.frozen? ⟨bX, 0, none⟩ = false ∧ wr.frozen? ⟨bX, 1, none⟩ = false :=
  ⟨by rw [cell_of_row wr bX 0 _ _ (0, 0) h.hx]; rfl, by rw [cell_of_row wr bX 1 _ _ (0, 0) h.hx]; rfl, frozen_of_row wr bX 0 _ _ h.hx, frozen_of_row wr bX 1 _ _ h.hx⟩
/-- Other numbers. -/
theorem GP.set1 (h : GP w wr bX L cL f T Aa ca l) (ha : AllP w wr A2 c2 l2) : GP w (wr.setCell ⟨bX, 1, none⟩ (.slice A2 l2.length c2)) bX L cL f T A2 c2 l2 :=
  ⟨by rw [heap_setCell_same wr bX 1 _ _ _ h.hx]; rfl, h.rows.setO h.hx (by decide) (by decide) _, ha.setO h.hx (by decide) h.lo (by have := h.lt; have := h.lo; omega) _, h.lo⟩
/-- One more row. -/
theorem GP.app {w6 w8 : World} {B6 m x d c8 : Nat} {D A8 : Option Addr} {p : List Nat} {o : Obj} (h : GP w w6 bX L cL f T Aa ca l) (hB6 : bX ≤ B6) (hD : OwI w6 B6 (.slice D (m + 1) d) (cs p ++ [(x : Int)])) (hm : p.length = m)
    (hown : w8.ownsRow bX 22 1 (.slice A8 (T.length + 1) c8) (T.length + 1) (TV f T ++ [.slice D (m + 1) d])) (hg : (w6.alloc o).grownBy w8 (Value.slice L T.length cL).ownBlock) :
    w8.heap[bX]? = some (.cells #[.slice L T.length cL, .slice Aa l.length ca] 143 (0, 0)) ∧ GP w (w8.setCell ⟨bX, 0, none⟩ (.slice A8 (T.length + 1) c8)) bX A8 c8 (updN f T.length (D, d)) (T ++ [p ++ [x]]) Aa ca l := by
  have hb2 : Below w6.heap.size w6 (w6.alloc o) := (Below.refl _ _).alloc (Nat.le_refl _) _
  have hlen : (p ++ [x]).length = m + 1 := by rw [List.length_append, hm]; rfl
  have hrow6 := own_below h.rows.1 hb2
  have hx8 : w8.heap[bX]? = some (.cells #[.slice L T.length cL, .slice Aa l.length ca] 143 (0, 0)) := by
    rw [hg.block bX (by have := h.lt; have := hb2.size; omega) (fun e => own_nblk h.rows.1 h.hx (by decide) e.symm), hb2.block bX h.lt]
    exact h.hx
  have hz8 : bX < w8.heap.size := (Array.getElem?_eq_some_iff.1 hx8).1
  have hR8 : OwN w8 bX A8 c8 (updN f T.length (D, d)) (T ++ [p ++ [x]]) := by
    refine ⟨?_, fun i hi => ?_⟩
    · rw [List.length_append, List.length_singleton, TV_upd, hlen]
      exact hown
    · rw [List.length_append, List.length_singleton] at hi
      rcases Nat.lt_or_ge i T.length with hlt | hge
      · rw [getD_appN _ hlt, show updN f T.length (D, d) i = f i by simp [updN, show i ≠ T.length by omega]]
        have hrow := own_below (show World.ownsRow _ _ _ _ _ _ _ from h.rows.2 i hlt) hb2
        exact World.ownsRow.kept hrow hg (own_ne hrow hrow6 (by decide))
      · have e : i = T.length := by omega
        subst e
        rw [getD_lastN, show updN f T.length (D, d) T.length = (D, d) by simp [updN], hlen, cs_snoc]
        have h6' : (w6.alloc o).ownsRow B6 3 1 (.slice D (m + 1) d) (cs p ++ [(x : Int)]).length ((cs p ++ [(x : Int)]).map I) := OwI.alloc hD _
        exact own_base (World.ownsRow.kept h6' hg (own_ne h6' hrow6 (by decide))) hB6
  have hA8 : AllP w w8 Aa ca l := by
    refine ⟨h.all.1, h.all.2.imp (fun hr => ?_) (fun ho => ?_)⟩
    · refine hr.keep fun q hq => cell_heap ?_
      have hq6 : q.block < w6.heap.size := by have := h.lt; have := h.lo; omega
      rw [hg.block q.block (by have := hb2.size; omega) (fun e => by have := (own_block h.rows.1 _ e.symm).1; have := h.lo; omega), hb2.block q.block hq6]
    · have ho' : (w6.alloc o).ownsRow w.heap.size 3 1 (.slice Aa l.length ca) l.length (l.map I) := OwI.alloc ho _
      exact World.ownsRow.kept ho' hg (own_ne ho' hrow6 (by decide))
  refine ⟨hx8, ?_, hR8.setO hx8 (by decide) (by decide) _, hA8.setO hx8 (by decide) h.lo (by have := h.lo; omega) _, h.lo⟩
  rw [heap_setCell_same w8 bX 0 _ _ _ hx8, List.length_append, List.length_singleton]
  rfl
end
theorem heap_alloc_newG {w : World} {g : Nat} (h : g = w.heap.size) (o : Obj) : (w.alloc o).heap[g]? = some o := by
  subst h
  exact heap_alloc_new w o
theorem own_capG {w : World} {B sz n c : Nat} {e : TypeId} {A : Option Addr} {xs : List Value} (h : w.ownsRow B e sz (.slice A n c) n xs) : n ≤ c := by
  obtain ⟨A', cc, e, hc⟩ := own_form h
  injection e with _ _ e
  omega
end Go.Proofs.Ytbbjgcagkmlngab
/- One more level of the model's tree: the walk. -/
namespace Go.Proofs.Ytbbjgcagkmlngab
open Go.RowKit

set_option maxRecDepth 100000 in
set_option maxHeartbeats 16000000 in
theorem grow_any (B : Nat) (A : Option Addr) (c : Nat) (f : Nat → Option Addr × Nat) (lev : List (List Nat)) (A' : Option Addr) (c' : Nat) (all : List Int) (w : World) (U : List (List Nat)) (V : List Int)
    (hst : growD (lev, all) = (U, V)) (h1 : U.length ≤ 500) (h2 : V.length ≤ 500) (hlv : lev.length ≤ 500) (hrow : ∀ i, i < lev.length → 1 ≤ (lev.getD i []).length ∧ (lev.getD i []).length ≤ 40 ∧ ∀ j, j < (lev.getD i []).length → (lev.getD i []).getD j 0 ≤ 1024)
    (hasc : Asc all) (hcap : all.length ≤ c') (hown : OwN w B A c f lev) (hra : Rd w w.heap.size 1 A' all.length (all.map I)) :
    Calls Try.prog 115 #[.agg #[.slice A lev.length c, .slice A' all.length c']] w fun e w' =>
      ∃ L cL fL Aa ca, e = .returned (.agg #[.slice L U.length cL, .slice Aa V.length ca]) ∧ OwN w' w.heap.size L cL fL U ∧ AllP w w' Aa ca V ∧ Below w.heap.size w w' := by
  have OWN := Lib.hid hown
  have HRA := Lib.hid hra
  have HROW := Lib.hid hrow
  have HGI := Lib.hid (fun i => show GLe (gI lev ([], all) i) (U, V) by rw [← hst]; exact gI_le lev ([], all) i)
  have HEND := Lib.hid (show gI lev ([], all) lev.length = (U, V) by rw [gI_end, ← hst]; rfl)
  have HSU := Lib.hid (fun i (hi : i < lev.length) => gI_succ (st := ([], all)) hi)
  have HASC := Lib.hid (show ∀ (l : List (List Nat)) (st : List (List Nat) × List Int), Asc st.2 → Asc (l.foldl grP st).2 from by
    have hA : ∀ (p : List Nat) (q : List Nat) (st : List (List Nat) × List Int), Asc st.2 → Asc (q.foldl (grA p) st).2 := by
      intro p q
      induction q with
      | nil => intro st h; exact h
      | cons a q ih => intro st h; exact ih _ (grA_asc h)
    intro l
    induction l with
    | nil => intro st h; exact h
    | cons p l ih => intro st h; exact ih _ (hA p p st h))
  have HASJ := Lib.hid (show ∀ (p : List Nat) (q : List Nat) (st : List (List Nat) × List Int), Asc st.2 → Asc (q.foldl (grA p) st).2 from by
    intro p q
    induction q with
    | nil => intro st h; exact h
    | cons a q ih => intro st h; exact ih _ (grA_asc h))
  have HAS0 := Lib.hid hasc
  clear hown hra hrow hst hasc
  go_enter Try.func115, Try.ntmps115
  go_wp2
  generalize hw3 : World.alloc (World.alloc (World.alloc w _) _) _ = w3
  have q1 : w3.heap[w.heap.size + 1]? = some (.cells #[.slice none 0 0, .slice none 0 0] 143 (0, 0)) := by
    rw [← hw3, Below.heap_alloc _ _ _ (by simp)]
    exact heap_alloc_newG (by simp) _
  have q2 : w3.heap[w.heap.size + 2]? = some (.cells #[.slice none 0 0, .slice A' all.length c'] 143 (0, 0)) := by
    rw [← hw3]
    exact heap_alloc_newG (by simp) _
  have hb3 : Below w.heap.size w w3 := by rw [← hw3]; exact (((Below.refl _ _).alloc (Nat.le_refl _) _).alloc (by simp) _).alloc (by simp; omega) _
  have hs3 : w3.heap.size = w.heap.size + 3 := by rw [← hw3]; simp
  clear hw3
  have hg0 : GP w w3 (w.heap.size + 2) none 0 (fun _ => (none, 0)) (gI lev ([], all) 0).1 A' c' (gI lev ([], all) 0).2 :=
    ⟨q2, ⟨World.ownsRow_nil _ _ _ _, fun i hi => absurd hi (Nat.not_lt_zero _)⟩, ⟨hcap, .inl (HRA.out.below' hb3 (Nat.le_refl _))⟩, by omega⟩
  have HG0 := Lib.hid hg0
  have HB3 := Lib.hid hb3
  have Q1 := Lib.hid q1
  obtain ⟨bX, hbX⟩ : ∃ bX, w.heap.size + 2 = bX := ⟨_, rfl⟩
  rw [hbX] at HG0 ⊢
  clear hg0 hb3 q1 q2
  go_loopw [15] (fun iv wr => ∃ (i : Nat) (L : Option Addr) (cL : Nat) (g : Nat → Option Addr × Nat) (Aa : Option Addr) (ca : Nat), i ≤ lev.length ∧ iv = .int .i64 i ∧ GP w wr bX L cL g (gI lev ([], all) i).1 Aa ca (gI lev ([], all) i).2 ∧ Below bX w3 wr) (fun i _ => lev.length - (intOf i).toNat)
  case atStart => exact ⟨0, none, 0, (fun _ => (none, 0)), A', c', by omega, rfl, HG0.out, Below.refl _ _⟩
  case round =>
    obtain ⟨i, L, cL, g, Aa, ca, hi, rfl, hgp, hbel⟩ := hrel
    have GP0 := Lib.hid hgp
    have BEL0 := Lib.hid hbel
    have hbw : Below w.heap.size w wr := HB3.out.trans (hbel.mono (by omega))
    by_cases hlt : i < lev.length
    · have iqk : (i : Int) < (lev.length : Int) := by omega
      obtain ⟨gA, rfl, hgB, hcell⟩ := OWN.out.at_ hlt
      have hgl := (own_block OWN.out.1 gA rfl).2
      have hrw := OWN.out.2 i hlt
      unfold OwI at hrw
      rw [cs_len] at hrw
      obtain ⟨p1, p40, pel⟩ := HROW.out i hlt
      have hsu := HSU.out i hlt
      have hle0 := HGI.out (i + 1)
      have has : Asc (gI lev ([], all) i).2 := HASC.out _ _ HAS0.out
      obtain ⟨p, hp⟩ : ∃ p, lev.getD i [] = p := ⟨_, rfl⟩
      obtain ⟨⟨F1, F2⟩, hF⟩ : ∃ F, f i = F := ⟨_, rfl⟩
      obtain ⟨S, hS⟩ : ∃ S, gI lev ([], all) i = S := ⟨_, rfl⟩
      rw [hsu, hS, hp] at hle0
      rw [hS, hp] at hsu
      rw [hp] at p1 p40 pel
      rw [hF, hp] at hcell hrw
      rw [hS] at has GP0
      simp only at hcell hrw
      have rdw : Rd w w.heap.size 1 F1 (cs p).length ((cs p).map I) := by rw [cs_len]; exact Rd.of_own hrw
      have RDW := Lib.hid rdw
      obtain ⟨gr, off, rfl, hgr, hcs⟩ := rdw.cells (by rw [cs_len]; omega)
      rw [cs_len] at hcs
      have HCS := Lib.hid (show ∀ j, j < p.length → w.cell? ⟨gr, off + j, none⟩ = some (.int .i64 ((p.getD j 0 : Nat) : Int)) from fun j hj => by rw [hcs j hj, cs_getD])
      have hcell1 := (hbw.cell (p := ⟨gA, i, none⟩) hgl).trans hcell
      obtain ⟨N, hN⟩ : ∃ N, p.length = N + 1 := ⟨p.length - 1, by omega⟩
      have hcl := (hbw.cell (p := ⟨gr, off + N, none⟩) hgr).trans (HCS.out N (by omega))
      obtain ⟨lp, hlp⟩ : ∃ lp, lastN p = lp := ⟨_, rfl⟩
      have hlN : p.getD N 0 = lp := by rw [← hlp]; unfold lastN; rw [show p.length - 1 = N by omega]
      have hlb : lp ≤ 1024 := by rw [← hlN]; exact pel N (by omega)
      rw [hlN] at hcl
      have hsub : IntKind.i64.wrap ((p.length : Int) - 1) = (N : Int) := by rw [IntWalk.i64_in _ (by omega)]; omega
      have i1 : (N : Int) < (p.length : Int) := by omega
      have HLP := Lib.hid hlp
      have HPEL := Lib.hid pel
      have HSU1 := Lib.hid hsu
      have HLE := Lib.hid hle0
      have HAS := Lib.hid (show ∀ j, Asc (gJ p S j).2 from fun j => HASJ.out p _ S has)
      have HJE := Lib.hid (gJ_end p S)
      have HJS := Lib.hid (fun j (hj : j < p.length) => gJ_succ (st := S) hj)
      have HJL := Lib.hid (fun j => gJ_le p S j)
      have hG1 : GP w wr bX L cL g (gJ p S 0).1 Aa ca (gJ p S 0).2 := GP0.out
      have HG1 := Lib.hid hG1
      clear hN hgp hbel hcs hsu hle0 has pel hlp hG1 hrw rdw hcell hF hp hS hlN GP0 HGI HSU HASC HASJ HROW
      go_wp2
      go_loopw [27] (fun jv wq => ∃ (j : Nat) (L : Option Addr) (cL : Nat) (g : Nat → Option Addr × Nat) (Aa : Option Addr) (ca : Nat), j ≤ p.length ∧ jv = .int .i64 j ∧ GP w wq bX L cL g (gJ p S j).1 Aa ca (gJ p S j).2 ∧ Below bX w3 wq) (fun j _ => p.length - (intOf j).toNat)
      case atStart => exact ⟨0, L, cL, g, Aa, ca, by omega, rfl, HG1.out, BEL0.out⟩
      case round =>
        clear hcell1 hcl hsub i1 hbw HG1
        obtain ⟨j, L, cL, g, Aa, ca, hj, rfl, hgp, hbel⟩ := hrel
        have hbw : Below w.heap.size w wr := HB3.out.trans (hbel.mono (by omega))
        have BEL := Lib.hid hbel
        have HBW := Lib.hid hbw
        by_cases hjt : j < p.length
        · have iqj : (j : Int) < (p.length : Int) := by omega
          have hcj := (hbw.cell (p := ⟨gr, off + j, none⟩) hgr).trans (HCS.out j hjt)
          have hpj := HPEL.out j hjt
          have hjs := HJS.out j hjt
          have hgl1 := ((HJL.out j).trans HLE.out)
          have hasj := HAS.out j
          obtain ⟨a, ha⟩ : ∃ a, p.getD j 0 = a := ⟨_, rfl⟩
          rw [ha] at hcj hpj hjs
          obtain ⟨⟨T, l⟩, hSt⟩ : ∃ st, gJ p S j = st := ⟨_, rfl⟩
          rw [hSt] at hgp hjs hgl1 hasj
          simp only at hgp hasj
          obtain ⟨x, hx⟩ : ∃ x, lp + a = x := ⟨_, rfl⟩
          have hw1 : IntKind.i64.wrap ((lp : Int) + (a : Int)) = (x : Int) := by rw [IntWalk.i64_in _ (by omega)]; omega
          have HGR : grA p (T, l) a = if hasI l (x : Int) then (T, l) else (T ++ [p ++ [x]], putI l (x : Int)) := by
            unfold grA
            rw [HLP.out, hx]
            rfl
          rw [HGR] at hjs
          have hgle : T.length ≤ 500 ∧ l.length ≤ 500 := ⟨Nat.le_trans hgl1.l h1, Nat.le_trans hgl1.a h2⟩
          obtain ⟨hT5, hl5⟩ := hgle
          obtain ⟨x0, x1, f0, f1⟩ := hgp.cells
          have hsz : w.heap.size ≤ wr.heap.size := hbw.size
          have LH := l1Has_any wr.heap.size Aa ca l (x : Int) wr (by omega) (hgp.all.rd hsz)
          obtain ⟨u, hu⟩ : ∃ u, hasI l (x : Int) = u := ⟨_, rfl⟩
          rw [hu] at LH hjs
          have LH := Lib.hid LH
          have HU := Lib.hid hu
          have HJ1 := Lib.hid hjs
          have GPJ := Lib.hid hgp
          have HASX := Lib.hid hasj
          clear hbel hbw ha hSt hx hgl1 hu hjs hgp hasj HGR HJS HJL HLE HAS HJE
          go_wp2_with fail
          go_at_call 71
          refine LH.out.mono ?_
          rintro e w4 ⟨rfl, rfl⟩
          cases u with
          | true =>
            go_wp2
            go_roundw
            case rel => exact ⟨j + 1, L, cL, g, Aa, ca, by omega, by go_num, by rw [HJ1.out]; exact GPJ.out, BEL.out⟩
            case measure => simp [intOf]; omega
          | false =>
            have HJ2 := Lib.hid (show gJ p S (j + 1) = (T ++ [p ++ [x]], putI l (x : Int)) from HJ1.out)
            have PUT := Lib.hid (l1PutN_any wr.heap.size Aa ca l (x : Int) wr (by omega) HASX.out (by have := HU.out; unfold hasI at this; rw [← List.contains_iff_mem, this]; decide) GPJ.out.all.1 (Nat.le_refl _) (GPJ.out.all.rd hsz))
            go_wp2_with fail
            go_at_call 132
            clear x0 x1 f0 f1
            refine PUT.out.mono ?_
            rintro e w4 ⟨A2, c2, rfl, hown2, hb4⟩
            have G4 := GPJ.out.below hb4
            have hall2 : AllP w w4 A2 c2 (putI l (x : Int)) := ⟨own_capG hown2, .inr (own_base hown2 hsz)⟩
            obtain ⟨x0, x1, f0, f1⟩ := G4.cells
            have G5 := (G4.set1 hall2).below (Below.refl _ _).drew
            obtain ⟨V2, hV2⟩ : ∃ V2, putI l (x : Int) = V2 := ⟨_, rfl⟩
            rw [hV2] at G5 ⊢
            have HV2 := Lib.hid hV2
            have hb5 : Below bX w3 (World.drew (w4.setCell ⟨bX, 1, none⟩ (.slice A2 V2.length c2))) := ((BEL.out.trans (hb4.mono (by have := G4.lt; have := GPJ.out.lt; omega))).setCell (Nat.le_refl _) _).trans (Below.refl _ _).drew
            have G5 := Lib.hid G5
            have HB5 := Lib.hid hb5
            clear hown2 hb4 hall2 G4 hV2 hb5
            go_wp2
            obtain ⟨w5, hw5⟩ : ∃ w5, World.drew (w4.setCell ⟨bX, 1, none⟩ (.slice A2 V2.length c2)) = w5 := ⟨_, rfl⟩
            have hg5 := G5.out
            have hb5 := HB5.out
            rw [hw5] at hg5 hb5
            clear x0 x1 f0 f1 G5 HB5
            obtain ⟨x0, _, _, _⟩ := hg5.cells
            have hbw5 : Below w.heap.size w w5 := HB3.out.trans (hb5.mono (by omega))
            have hs5 := hbw5.size
            have hlo5 := l1Own_any w.heap.size (some ⟨gr, off, none⟩) F2 (cs p)
            have LO := Lib.hid (show ∀ W, Below w.heap.size w W → Calls Try.prog 70 #[.slice (some ⟨gr, off, none⟩) p.length F2] W fun e w' => ∃ A' c', e = .returned (.slice A' p.length c') ∧ OwI w' W.heap.size (.slice A' p.length c') (cs p) ∧ Below W.heap.size W w' from fun W hW => by
              have := hlo5 W (by rw [cs_len]; omega) hW.size (RDW.out.below' hW (Nat.le_refl _))
              rw [cs_len] at this
              exact this)
            have HG5 := Lib.hid hg5
            have HB5 := Lib.hid hb5
            have HBW5 := Lib.hid hbw5
            clear hg5 hb5 hbw5 hlo5
            refine wp_region_T (fun x : World => x.cell? ⟨bX, 0, none⟩ = some (.slice L T.length cL)) [0, 1, 2, 4, 5, 6, 11] [1] (.lp 0 (.lp 2 (.lp 4 (.lp 5 (.lp 6 (.ls 1 (.hv2 3 (.hv 7 (.hv 8 (.hv 9 (.hv 10 (.lp 11 (.hv 12 (.done))))))) 7 (.hv 3 (.hv 8 (.hv 9 (.hv 10 (.lp 11 (.hv 12 (.done)))))))))))))) (by kernel_rfl) (by kernel_rfl) ?_
            rw [hw5]
            clear hw5
            (repeat (refine T_lp rfl (fun K hK => ?_); go_simp; refine hK _ ?_; clear hK K))
            refine T_ls1 (v := .slice L T.length cL) rfl rfl x0 (fun x hx => (by go_simp)) (fun K hK => ?_)
            (go_simp; refine hK _ ?_; clear hK K)
            refine T_hv2 ?_ ?_
            · refine T_hvS rfl (fun K hK => ?_)
              go_simp
              go_at_call 70
              refine (LO.out w5 HBW5.out).mono ?_
              rintro e w6 ⟨D, d, rfl, hownD, hb6⟩
              have HB6 := Lib.hid (show Below w5.heap.size w5 w6 from hb6)
              clear hb6
              go_simp
              refine hK _ _ (HG5.out.below HB6.out).cells.1 ?_
              clear hK K
              refine T_hvS rfl (fun K hK => ?_)
              go_simp
              refine hK _ _ (cell_kept (HG5.out.below HB6.out).cells.1 _) ?_
              clear hK K
              have OD := Lib.hid hownD
              clear hownD
              refine T_hvS rfl (fun K hK => ?_)
              refine step_app_int rfl (.tmp 48) (.tmp 52) rfl w5.heap.size p.length _ (cs p) rfl (OwI.alloc OD.out _) (cs_len p) w6.heap.size 1 (x : Int) rfl (by simp) (by omega) (by have := HB6.out.size; simp; omega) ?_
              intro A7 c7 w7 hown7 hg7 hbel7
              have hb7 : Below w5.heap.size w5 w7 := (HB6.out.alloc HB6.out.size _).trans hbel7
              have G7 := HG5.out.below hb7
              go_simp
              refine hK _ _ G7.cells.1 ?_
              clear hK K
              refine T_hvS rfl (fun K hK => ?_)
              go_simp
              refine hK _ _ (cell_kept G7.cells.1 _) ?_
              clear hK K
              refine T_hv rfl (by kernel_rfl) (fun K hK => ?_)
              refine step_app1 Try.underlying56 info_ints rfl (by omega) rfl (.tmp 46) (.tmp 54) rfl bX T.length _ (TV g T) rfl (World.ownsRow.alloc G7.rows.1 _) w7.heap.size 1 (.slice A7 (p.length + 1) c7) rfl (by simp) rfl (by omega) (by have := hb7.size; have := HG5.out.lt; simp; omega) ?_
              intro A8 c8 w8 hown8 hg8 hbel8
              have hap := G7.app (B6 := w5.heap.size) (by have := HG5.out.lt; omega) hown7 rfl hown8 hg8
              have z0 : w8.cell? ⟨bX, 0, none⟩ = some (.slice L T.length cL) := by rw [cell_of_row w8 bX 0 _ _ (0, 0) hap.1]; rfl
              have z1 : w8.frozen? ⟨bX, 0, none⟩ = false := frozen_of_row w8 bX 0 _ _ hap.1
              have HAP := Lib.hid hap.2
              have HB8 := Lib.hid (show Below bX w3 w8 from (HB5.out.trans ((hb7.mono (by have := HG5.out.lt; omega)).trans ((Below.refl _ _).alloc (by have := G7.lt; omega) _))).trans hbel8)
              clear hown7 hg7 hbel7 hb7 G7 hown8 hg8 hbel8 hap
              (go_simp; refine hK _ _ ?_; clear hK K)
              (repeat (refine T_lp rfl (fun K hK => ?_); go_simp; refine hK _ ?_; clear hK K))
              (refine T_hv rfl (by kernel_rfl) (fun K hK => ?_); go_simp; refine hK _ _ ?_; clear hK K)
              refine T_done ?_
              go_wp2
              go_roundw
              case rel => exact ⟨j + 1, A8, c8, updN g T.length (A7, c7), A2, c2, by omega, by go_num, by rw [HJ2.out, HV2.out]; simpa using HAP.out, HB8.out.setCell (Nat.le_refl _) _⟩
              case measure => simp [intOf]; omega
            · refine T_hvS rfl (fun K hK => ?_)
              go_simp
              refine hK _ _ (cell_kept x0 _) ?_
              clear hK K
              generalize hwa : World.alloc w5 _ = wa
              have hca : wa.cell? ⟨w5.heap.size, 0, none⟩ = some (I (x : Int)) := by rw [← hwa]; simp
              have hba : Below w5.heap.size w5 wa := by rw [← hwa]; exact (Below.refl _ _).alloc (Nat.le_refl _) _
              have hsa : wa.heap.size = w5.heap.size + 1 := by rw [← hwa]; simp
              clear hwa
              refine T_hvS rfl (fun K hK => ?_)
              go_simp
              go_at_call 70
              refine (LO.out wa (HBW5.out.trans (hba.mono hs5))).mono ?_
              rintro e w6 ⟨D, d, rfl, hownD, hb6⟩
              have hca6 := (hb6.cell (p := ⟨w5.heap.size, 0, none⟩) (by simp only []; omega)).trans hca
              have hownD := own_base (show World.ownsRow _ _ _ _ _ _ _ from hownD) (show w5.heap.size ≤ wa.heap.size by omega)
              have HB6 := Lib.hid (show Below w5.heap.size w5 w6 from hba.trans (hb6.mono (by omega)))
              clear hb6 hba hca
              go_simp
              refine hK _ _ (HG5.out.below HB6.out).cells.1 ?_
              clear hK K
              have OD := Lib.hid hownD
              clear hownD
              refine T_hvS rfl (fun K hK => ?_)
              refine step_app_int rfl (.tmp 48) (.tmp 52) rfl w5.heap.size p.length _ (cs p) rfl OD.out (cs_len p) w5.heap.size 1 (x : Int) rfl hca6 (by omega) (by have := HB6.out.size; omega) ?_
              intro A7 c7 w7 hown7 hg7 hbel7
              have hb7 : Below w5.heap.size w5 w7 := HB6.out.trans hbel7
              have G7 := HG5.out.below hb7
              go_simp
              refine hK _ _ G7.cells.1 ?_
              clear hK K
              refine T_hvS rfl (fun K hK => ?_)
              go_simp
              refine hK _ _ (cell_kept G7.cells.1 _) ?_
              clear hK K
              refine T_hv rfl (by kernel_rfl) (fun K hK => ?_)
              refine step_app1 Try.underlying56 info_ints rfl (by omega) rfl (.tmp 46) (.tmp 54) rfl bX T.length _ (TV g T) rfl (World.ownsRow.alloc G7.rows.1 _) w7.heap.size 1 (.slice A7 (p.length + 1) c7) rfl (by simp) rfl (by omega) (by have := hb7.size; have := HG5.out.lt; simp; omega) ?_
              intro A8 c8 w8 hown8 hg8 hbel8
              have hap := G7.app (B6 := w5.heap.size) (by have := HG5.out.lt; omega) hown7 rfl hown8 hg8
              have z0 : w8.cell? ⟨bX, 0, none⟩ = some (.slice L T.length cL) := by rw [cell_of_row w8 bX 0 _ _ (0, 0) hap.1]; rfl
              have z1 : w8.frozen? ⟨bX, 0, none⟩ = false := frozen_of_row w8 bX 0 _ _ hap.1
              have HAP := Lib.hid hap.2
              have HB8 := Lib.hid (show Below bX w3 w8 from (HB5.out.trans ((hb7.mono (by have := HG5.out.lt; omega)).trans ((Below.refl _ _).alloc (by have := G7.lt; omega) _))).trans hbel8)
              clear hown7 hg7 hbel7 hb7 G7 hown8 hg8 hbel8 hap
              (go_simp; refine hK _ _ ?_; clear hK K)
              (repeat (refine T_lp rfl (fun K hK => ?_); go_simp; refine hK _ ?_; clear hK K))
              (refine T_hv rfl (by kernel_rfl) (fun K hK => ?_); go_simp; refine hK _ _ ?_; clear hK K)
              refine T_done ?_
              go_wp2
              go_roundw
              case rel => exact ⟨j + 1, A8, c8, updN g T.length (A7, c7), A2, c2, by omega, by go_num, by rw [HJ2.out, HV2.out]; simpa using HAP.out, HB8.out.setCell (Nat.le_refl _) _⟩
              case measure => simp [intOf]; omega
        · have hj' : j = p.length := by omega
          subst hj'
          have HGE := Lib.hid hgp
          clear hgp hbel hbw
          go_wp2
          go_roundw
          case rel => exact ⟨i + 1, L, cL, g, Aa, ca, by omega, by go_num, by rw [HSU1.out, ← HJE.out]; exact HGE.out, BEL.out⟩
          case measure => simp [intOf]; omega
    · have hi' : i = lev.length := by omega
      subst hi'
      rw [HEND.out] at hgp
      simp only at hgp
      obtain ⟨x0, x1, _, _⟩ := hgp.cells
      have hq1 := (hbel.block (w.heap.size + 1) (by omega)).trans Q1.out
      have t0 : wr.cell? ⟨w.heap.size + 1, 0, none⟩ = some (.slice none 0 0) := by rw [cell_of_row wr (w.heap.size + 1) 0 _ _ (0, 0) hq1]; rfl
      have t1 : wr.cell? ⟨w.heap.size + 1, 1, none⟩ = some (.slice none 0 0) := by rw [cell_of_row wr (w.heap.size + 1) 1 _ _ (0, 0) hq1]; rfl
      have g0 : wr.frozen? ⟨w.heap.size + 1, 0, none⟩ = false := frozen_of_row wr (w.heap.size + 1) 0 _ _ hq1
      have g1 : wr.frozen? ⟨w.heap.size + 1, 1, none⟩ = false := frozen_of_row wr (w.heap.size + 1) 1 _ _ hq1
      have HQ1 := Lib.hid hq1
      have HGE := Lib.hid hgp
      have HBE := Lib.hid hbw
      clear hgp hbel hbw hq1
      go_wp2
      refine bodyPost_ret (v := .agg #[.slice L U.length cL, .slice Aa V.length ca]) (by simp [results, Try.results115, go_sem, t0, t1]) rfl ⟨L, cL, g, Aa, ca, rfl, ?_, ?_, ?_⟩
      · have k1 := heap_setCell_same wr (w.heap.size + 1) 0 _ _ (.slice L U.length cL) HQ1.out
        have r := (HGE.out.rows.setO HQ1.out (by decide) (by decide) (o := 0) (.slice L U.length cL)).setO k1 (by decide) (by decide) (o := 1) (.slice Aa V.length ca)
        exact ⟨own_base r.1 HGE.out.lo, fun i hi => own_base (show World.ownsRow _ _ _ _ _ _ _ from r.2 i hi) HGE.out.lo⟩
      · have k1 := heap_setCell_same wr (w.heap.size + 1) 0 _ _ (.slice L U.length cL) HQ1.out
        have hz := HBE.out.size
        exact (HGE.out.all.setO HQ1.out (by decide) (by omega) hz (o := 0) (.slice L U.length cL)).setO k1 (by decide) (by omega) (by simpa using hz) (o := 1) (.slice Aa V.length ca)
      · exact (HBE.out.setCell (by simp) _).setCell (by simp) _
end Go.Proofs.Ytbbjgcagkmlngab
