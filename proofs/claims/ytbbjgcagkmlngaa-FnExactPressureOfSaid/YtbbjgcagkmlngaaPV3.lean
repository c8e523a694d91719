/- Joined: Bl Qj Qn Qq Qt Qp Qu Qv Qw Ra Jl Rla Rna Cc Cd Ce Cj Jn Rlv Jo Jq Rlp Rnb Rnc. -/
import Derived.Shelf.Small.Bits
import Derived.Test.YtbbjgcagkmlngaaPV0
import Derived.Lib.BitFns
import Derived.Test.YtbbjgcagkmlngaaPV1
import Derived.Lib.AppendZeros
import Derived.Lib.AppendZerosOnto
import Derived.Lib.Overlaps
import Derived.Lib.SliceRun
import Derived.Laws.Externs
import Derived.Laws.IdiomCopy
import Derived.Test.YtbbjgcagkmlngaaPV2
/- The library's bit length, at this program. -/
namespace Go.Proofs.Ytbbjgcagkmlngaa
open Go.Shelf
end Go.Proofs.Ytbbjgcagkmlngaa
/- Bit lengths. -/
namespace Go.Proofs.Ytbbjgcagkmlngaa
open Go.RowKit

def bl (n : Int) : Nat := Lib.bitLen n.toNat
theorem bl_more {n : Nat} {b : Nat} (hn : n ≤ 1000000) (h : 2 ^ b ≤ n) : b + 1 ≤ Lib.bitLen n := by
  rw [Lib.bitLen_shift b n h (by omega)]
  have h1 : n / 2 ^ b ≠ 0 := by
    have := Nat.div_pos h (Nat.two_pow_pos b)
    omega
  have h2 : n / 2 ^ b ≤ n := Nat.div_le_self _ _
  rw [Lib.bitLen_half (n / 2 ^ b) h1 (by omega)]
  omega
theorem bl_bd {n : Nat} (hn : n ≤ 1000000) : Lib.bitLen n ≤ 20 := Lib.bitLen_le n 20 (by omega) (by omega)

def isNum (n : Int) : Bool := inB n 1 1000000
def bitN (n : Int) : Int := if isNum n then (bl n : Int) else 0
theorem bitN_true {n : Int} (h : isNum n = true) : bitN n = bl n := by unfold bitN; rw [if_pos h]
theorem bitN_false {n : Int} (h : isNum n = false) : bitN n = 0 := by unfold bitN; rw [h]; rfl
theorem isNum_rng {n : Int} (h : isNum n = true) : 1 ≤ n ∧ n ≤ 1000000 := by
  unfold isNum inB at h
  simpa using h


end Go.Proofs.Ytbbjgcagkmlngaa
/- Lists that are answered if they are chains; copies of lists. -/
namespace Go.Proofs.Ytbbjgcagkmlngaa
open Go.RowKit

/-- A list that is answered if b. -/
def selL (b : Bool) (l : List Int) : List Int := if b then l else []
theorem selL_true {b : Bool} {l : List Int} (h : b = true) : selL b l = l := by unfold selL; rw [if_pos h]
theorem selL_false {b : Bool} {l : List Int} (h : b = false) : selL b l = [] := by unfold selL; rw [h]; rfl
theorem selL_le {b : Bool} {l : List Int} (h : b = true → chG l = true) : (selL b l).length ≤ 1000 := by
  cases b with
  | false => simp [selL]
  | true => have := (chG_chn (h rfl)).most; rw [selL_true rfl]; omega
theorem and_chG {b : Bool} {l : List Int} (h : (b && chG l) = true) : chG l = true := by simp only [Bool.and_eq_true] at h; exact h.2

theorem eq_nil_A (A : Option Addr) (n c : Nat) (W : World) : (binOp .eql 156 (.slice A n c) (.slice none 0 0)).run Try.prog W = .ok (.bool A.isNone) W := by
  simp only [binOp]
  simp [run_equal_slice_nil W 156 3 A n c Try.underlying156]
set_option maxRecDepth 100000 in
set_option maxHeartbeats 1000000 in
theorem cloneA_any (B : Nat) (A : Option Addr) (c : Nat) (l : List Int) (w : World) (hm : l.length ≤ 1000000) (h0 : 0 < l.length) (hB : B ≤ w.heap.size) (hr : Rd w B 1 A l.length (l.map I)) :
    Calls Try.prog 147 #[.slice A l.length c] w fun e w' => ∃ A' c', e = .returned (.slice A' l.length c') ∧ OwI w' w.heap.size (.slice A' l.length c') l ∧ Below w.heap.size w w' := by
  obtain ⟨ad, rfl⟩ := hr.addr h0
  have H := Lib.hid hr
  clear hr
  have hnil := fun W => eq_nil_A (some ad) l.length c W
  go_enter Try.func147, Try.ntmps147
  go_wp2_with (first
    | (at_builtin; refine list_step (fun K hK => ?_); refine step_appM Try.underlying156 info_int rfl (by omega) (by omega) rfl (.tmp 5) (.tmp 6) rfl w.heap.size 0 _ [] rfl (own_empty 1 (Nat.le_refl _)) _ l.length c (l.map I) rfl (H.out.alloc hB _) (ints_one l) (by omega) (by simp) ?_; intro A2 c2 w2 hown2 hg2 hbel2; go_simp; refine hK _ _ ?_; clear hK K))
  go_ret
  simp only [Nat.zero_add, List.nil_append] at hown2
  exact ⟨A2, c2, by simp, hown2, ((Below.refl _ _).alloc (Nat.le_refl _) _).trans hbel2⟩
/-- The same at nil. -/
theorem cloneA_nil (w : World) : Calls Try.prog 147 #[.slice none 0 0] w fun e w' => e = .returned (.slice none 0 0) ∧ w = w' := by
  have hnil := fun W => eq_nil_A none 0 0 W
  go_enter Try.func147, Try.ntmps147
  go_wp2
  go_ret
  exact ⟨rfl, rfl⟩
end Go.Proofs.Ytbbjgcagkmlngaa
/- A number put into a list of own memory, by the library. -/
namespace Go.Proofs.Ytbbjgcagkmlngaa
open Go.RowKit

theorem append_two (w : World) (ty : TypeId) (A : Option Addr) (n c : Nat) (x : Value) : (Builtin.append_ #[156, 22] ty #[.slice A n c, x]).run Try.prog w = (Builtin.append_ #[156, 156] ty #[.slice A n c, x]).run Try.prog w := by
  have u1 := run_underlying Try.underlying156
  have u2 := run_underlying Try.underlying22
  unfold Builtin.append_
  simp [Sem.run_bind, u1, u2]

/-- The operation copy, where its run is known. -/
theorem at_copy (w : World) {o : Oper} {a : Act} {K : Act → World → Prop} {Q : Exit → Act → World → Prop} (d s : Operand) (t t' : TypeId)
    (ho : o.op = .call { callee := .builtin .copy, args := #[d, s], argTypes := #[t, t'] }) (v u : Value) (hd : a.eval d = v) (hs : a.eval s = u) {v' : Value} {w' : World}
    (hr : (Builtin.copy_ #[t, t'] o.type #[v, u]).run Try.prog w = .ok v' w') (h : K (a.put o.dst v') w') : o.wp Try.prog a w K Q := by
  unfold Oper.wp execOp
  simp only [ho, resolve, invoke, builtin, Sem.run_bind, Sem.run_pure, Result.andThen_ok, List.map_toArray, List.map_cons, List.map_nil, hd, hs, hr]
  exact h
theorem list_copy (w : World) {ops : Array Oper} {rest : List Oper} {o : Oper} {a : Act} {Q : Exit → Act → World → Prop} (hgd : o.guard = none) (d s : Operand) (t t' : TypeId)
    (ho : o.op = .call { callee := .builtin .copy, args := #[d, s], argTypes := #[t, t'] }) (v u : Value) (hd : a.eval d = v) (hs : a.eval s = u) {v' : Value} {w' : World}
    (hr : (Builtin.copy_ #[t, t'] o.type #[v, u]).run Try.prog w = .ok v' w') (h : wpList Try.prog ops Q rest (a.put o.dst v') w') : wpList Try.prog ops Q (o :: rest) a w :=
  wpList_plain hgd fun _ hK => at_copy w d s t t' ho v u hd hs hr (hK _ _ h)
theorem step_copy {ops : Array Oper} {o : Oper} {a : Act} {w : World} {K : Act → World → Prop} {Q : Exit → Act → World → Prop} {E : Prop}
    (hg : o.guard = none) (d x : Operand) (dT sT : TypeId) (hop : o.op = Op.call { callee := Callee.builtin Builtin.copy, args := #[d, x], argTypes := #[dT, sT] })
    (v u : Value) (hd : a.eval d = v) (hx : a.eval x = u) {v' : Value} {w' : World} (hr : (Builtin.copy_ #[dT, sT] o.type #[v, u]).run Try.prog w = .ok v' w') (hK : K (a.put o.dst v') w') :
    if Region.wanted o (yielded ops a.tmps) = true then Oper.wp Try.prog o a w K Q else E := by
  have hw : Region.wanted o (yielded ops a.tmps) = true := by simp [Region.wanted, hg]
  rw [if_pos hw]
  unfold Oper.wp
  simp [execOp, hop, resolve, invoke, builtin, hd, hx, hr, Result.andThen]
  exact hK

/-- Stores of a list keep the block's size and type. -/
theorem setCells_heap (b : Nat) : ∀ (vs : List Value) (o : Nat) (w : World) (cur : Array Value) (t : TypeId), w.heap[b]? = some (.cells cur t (0, 0)) →
    ∃ cur', (w.setCells b o vs).heap[b]? = some (.cells cur' t (0, 0)) ∧ cur'.size = cur.size
  | [], _, _, cur, _, h => ⟨cur, h, rfl⟩
  | v :: vs, o, _, cur, t, h => by
    have h1 := heap_setCell_same _ b o cur t v h
    obtain ⟨cur', h2, h3⟩ := setCells_heap b vs (o + 1) _ _ t h1
    exact ⟨cur', h2, by rw [h3]; simp⟩
theorem setCells_below {B b : Nat} (hB : B ≤ b) : ∀ (vs : List Value) (o : Nat) (w0 w : World), Below B w0 w → Below B w0 (w.setCells b o vs)
  | [], _, _, _, h => h
  | v :: vs, o, w0, _, h => setCells_below hB vs (o + 1) w0 _ (h.setCell (p := ⟨b, o, none⟩) hB v)
/-- A row by its block and its cells. -/
theorem own_cells_mk {w : World} {B g cap n : Nat} {cur : Array Value} {t : TypeId} {xs : List Value} (hB : B ≤ g) (hg : w.heap[g]? = some (.cells cur t (0, 0))) (hs : cur.size = cap) (hn : n ≤ cap) (hM : cap ≤ maxLen) (hl : xs.length = n)
    (hc : ∀ j, j < n → w.cell? ⟨g, j, none⟩ = xs[j]?) : w.ownsRow B t 1 (.slice (some ⟨g, 0, none⟩) n cap) n xs := by
  refine ⟨by omega, .inr ⟨g, cap, cur, rfl, hB, hg, hn, hM, by omega, ?_⟩⟩
  refine List.ext_getElem (by rw [List.length_take, Array.length_toList]; omega) fun j h1 h2 => ?_
  have hj : j < n := by omega
  have h := hc j hj
  unfold World.cell? at h
  rw [hg] at h
  simp only [Option.isSome_none, Bool.false_eq_true, if_false] at h
  rw [List.getElem?_eq_getElem h2] at h
  rw [List.getElem_take]
  have h3 : j < cur.size := by omega
  rw [Array.getElem?_eq_getElem h3] at h
  simp only [Option.some.injEq] at h
  rw [Array.getElem_toList]
  exact h
/-- The list with x at index i. -/
def insA (l : List Int) (i : Nat) (x : Int) : List Int := l.take i ++ x :: l.drop i
theorem insA_length (l : List Int) {i : Nat} (x : Int) (hi : i ≤ l.length) : (insA l i x).length = l.length + 1 := by
  unfold insA
  rw [List.length_append, List.length_cons, List.length_take, List.length_drop]
  omega
theorem insA_at (l : List Int) {i : Nat} (x : Int) (hi : i ≤ l.length) (j : Nat) : ((insA l i x).map I)[j]? = if j < i then (l.map I)[j]? else if j = i then some (I x) else (l.map I)[j - 1]? := by
  unfold insA
  rw [List.map_append, List.map_cons, List.map_take, List.map_drop]
  by_cases h1 : j < i
  · rw [if_pos h1, List.getElem?_append_left (by simp; omega), List.getElem?_take, if_pos h1]
  · rw [if_neg h1, List.getElem?_append_right (by simp; omega)]
    have e : (List.take i (l.map I)).length = i := by simp; omega
    rw [e]
    by_cases h2 : j = i
    · subst h2
      simp
    · rw [if_neg h2, show j - i = (j - i - 1) + 1 by omega, List.getElem?_cons_succ, List.getElem?_drop]
      congr 1
      omega

set_option maxRecDepth 100000 in
set_option maxHeartbeats 2000000 in
/-- At the end. -/
theorem insert_end (B0 : Nat) (A : Option Addr) (c n : Nat) (x : Int) (vb vc : Nat) (l : List Int) (w : World) (hln : l.length = n) (hn : n ≤ 1000) (hB : B0 ≤ w.heap.size)
    (hown : w.ownsRow B0 3 1 (.slice A n c) n (l.map I)) (hv : w.cell? ⟨vb, 0, none⟩ = some (I x)) :
    Calls Try.prog 149 #[.slice A n c, .int .i64 n, .slice (some ⟨vb, 0, none⟩) 1 vc] w fun e w' =>
      ∃ A' c', e = .returned (.slice A' (n + 1) c') ∧ w'.ownsRow B0 3 1 (.slice A' (n + 1) c') (n + 1) ((insA l n x).map I) ∧ Below B0 w w' := by
  obtain ⟨i0, hi, hz0, hz1, hz2⟩ := info_parts info_int
  have hrun := fun ty => run_append_lies (P := Try.prog) (w := w) 156 ty B0 3 i0 _ 1 8 Try.underlying156 hi hz0 hz1 hz2 rfl (by omega) (.slice A n c) n (l.map I) hown
    ⟨vb, 0, none⟩ 1 vc [I x] rfl (fun j u hj => by
      match j, hj with
      | 0, hj => simp at hj; subst hj; simpa [Addr.add] using hv) (fun u hu => by simp at hu; subst hu; rfl) (by omega) (by unfold maxLen; omega) (by omega) hB w.heap.size rfl
  have hrun2 : ∀ ty, ∃ g cap w', (Builtin.append_ #[156, 22] ty #[.slice A n c, .slice (some ⟨vb, 0, none⟩) 1 vc]).run Try.prog w = .ok (.slice (some ⟨g, 0, none⟩) (n + 1) cap) w' ∧
      w'.ownsRow B0 3 1 (.slice (some ⟨g, 0, none⟩) (n + 1) cap) (n + 1) (l.map I ++ [I x]) ∧ Below B0 w w' := fun ty => by
    obtain ⟨g, cap, w', hr, h2, h3, _, _⟩ := hrun ty
    exact ⟨g, cap, w', (append_two w ty A n c _).trans hr, h2, below_of_own hown hB h3⟩
  obtain ⟨g, cap, w', hr, h2, h3⟩ := hrun2 156
  have HR := Lib.hid hr
  have H2 := Lib.hid h2
  have H3 := Lib.hid h3
  clear hrun hrun2 hown hr h2 h3
  go_enter Try.func149, Try.ntmps149
  go_wp2_with (at_builtin; refine Lib.wpList_append_run _ rfl _ _ _ _ rfl _ _ rfl rfl _ _ HR.out ?_)
  all_goals
    go_ret
    refine ⟨_, _, rfl, ?_, H3.out⟩
    have e : insA l n x = l ++ [x] := by unfold insA; rw [List.take_of_length_le (by omega), List.drop_of_length_le (by omega)]
    rw [e, List.map_append]
    exact H2.out

theorem cells_some {w : World} {b : Nat} {cur : Array Value} {t : TypeId} (h : w.heap[b]? = some (.cells cur t (0, 0))) {j : Nat} (hj : j < cur.size) : (w.cell? ⟨b, j, none⟩).isSome = true := by
  unfold World.cell?
  rw [h]
  simp [hj]
theorem cells_free {w : World} {b : Nat} {cur : Array Value} {t : TypeId} (h : w.heap[b]? = some (.cells cur t (0, 0))) (j : Nat) : w.frozen? ⟨b, j, none⟩ = false := by
  unfold World.frozen?
  rw [h]
  simp
theorem cells_shape {w : World} {b : Nat} {cur : Array Value} {t : TypeId} (h : w.heap[b]? = some (.cells cur t (0, 0))) : w.shape? b = some (t, cur.size) := by
  unfold World.shape?
  rw [h]
theorem isSome_set (b : Nat) (vs : List Value) (o : Nat) (w : World) (h : ∀ j, j < vs.length → (w.cell? ⟨b, o + j, none⟩).isSome = true) (k : Nat) (hk : (w.cell? ⟨b, k, none⟩).isSome = true) : ((w.setCells b o vs).cell? ⟨b, k, none⟩).isSome = true := by
  by_cases hin : o ≤ k ∧ k < o + vs.length
  · have := World.cell?_setCells_in b vs o w h (k - o) (by omega)
    rw [show o + (k - o) = k by omega] at this
    rw [this]; rfl
  · rw [World.cell?_setCells_out b vs o w ⟨b, k, none⟩ (fun _ _ => by show k < o ∨ o + vs.length ≤ k; omega)]
    exact hk

set_option maxRecDepth 100000 in
set_option maxHeartbeats 4000000 in
theorem insert_room (B0 : Nat) (b c n i : Nat) (x : Int) (vb vc : Nat) (l : List Int) (w : World) (hln : l.length = n) (hi : i < n) (hn : n ≤ 1000) (hc : n + 1 ≤ c)
    (hown : w.ownsRow B0 3 1 (.slice (some ⟨b, 0, none⟩) n c) n (l.map I)) (hv : w.heap[vb]? = some (.cells #[I x] 3 (0, 0))) (hvb : vb ≠ b) :
    Calls Try.prog 149 #[.slice (some ⟨b, 0, none⟩) n c, .int .i64 i, .slice (some ⟨vb, 0, none⟩) 1 vc] w fun e w' =>
      ∃ A' c', e = .returned (.slice A' (n + 1) c') ∧ w'.ownsRow B0 3 1 (.slice A' (n + 1) c') (n + 1) ((insA l i x).map I) ∧ Below B0 w w' := by
  obtain ⟨g, cap, cur, hve, hBb, hg, hncap, hcM, hcs, _⟩ := hown.2.resolve_left (fun h => by have := h.1; simp at this)
  simp only [Value.slice.injEq, Option.some.injEq, Addr.mk.injEq, and_true, true_and] at hve
  obtain ⟨rfl, rfl⟩ := hve
  have hcsz : cur.size = c := by omega
  have hcl : ∀ j v, (l.map I)[j]? = some v → w.cell? ⟨b, 0 + j, none⟩ = some v := fun j v hj => by
    have hjl : j < (l.map I).length := (List.getElem?_eq_some_iff.1 hj).1
    rw [Nat.zero_add, hown.cellAt j (by simp at hjl; omega), hj]
  have hsp : ∀ j, j < n + 1 → (w.cell? ⟨b, 0 + j, none⟩).isSome = true := fun j hj => by rw [Nat.zero_add]; exact cells_some hg (by omega)
  have hfz : ∀ j, j < n + 1 → w.frozen? ⟨b, 0 + j, none⟩ = false := fun j _ => cells_free hg _
  have hvs : ∀ j v, ([I x] : List Value)[j]? = some v → w.cell? ⟨vb, 0 + j, none⟩ = some v := fun j v hj => by
    match j, hj with
    | 0, hj => simp at hj; subst hj; unfold World.cell?; rw [hv]; simp
  have hz2 : ¬ ((i : Int) = (n : Int)) := by omega
  obtain ⟨i0, hi0, hz0, hz1, hz2'⟩ := info_parts info_int
  have hsz : (Try.prog.info? 3).map (·.size) = some 1 := by rw [hi0]; simp [hz1]
  have hov : ∀ lb cb, (callFunc 153 #[.slice (some ⟨vb, 0, none⟩) 1 vc, .slice (some ⟨b, i + 1, none⟩) lb cb]).run Try.prog w = .ok (.value (.bool false)) w := fun lb cb => by
    rw [run_callFunc_extern Try.func153 (by kernel_rfl) (by kernel_rfl) (by kernel_rfl) (e := Extern.SlicesOverlaps.overlaps #[22, 22] #[4]) (by kernel_rfl),
      Lib.run_overlaps_apart w 22 4 3 Try.underlying22 1 Try.sizeOf3 ⟨vb, 0, none⟩ ⟨b, i + 1, none⟩ 1 vc lb cb hvb 3 3 1 cur.size (cells_shape hv) (cells_shape hg) (by omega) (cells_free hv 0) (cells_free hv 1)]
    rfl
  have hdl : ((l.map I).drop i).length = n - i := by rw [List.length_drop, List.length_map, hln]
  have hw1 : IntKind.i64.wrap ((i : Int) + 1) = (i : Int) + 1 := IntWalk.i64_in _ (by omega)
  have hw2 : IntKind.i64.wrap ((n : Int) + 1) = (n : Int) + 1 := IntWalk.i64_in _ (by omega)
  have hb1 : (0 : Int) ≤ (i : Int) + 1 := by omega
  have hin : i ≤ n := by omega
  have htn : ((i : Int) + 1).toNat = i + 1 := by omega
  have htn2 : ((n : Int) + 1).toNat = n + 1 := by omega
  have hb2 : ¬ (c = i + 1) := by omega
  have hb3 : (i : Int) ≤ (n : Int) + 1 := by omega
  have hb4 : ¬ (c = i) := by omega
  have hroom : ¬ ((c : Int) < (n : Int) + 1) := by omega
  have hc1 : (n : Int) + 1 ≤ (c : Int) := by omega
  have h1c : ∀ v ∈ l.map I, v.oneCell' = true := ints_one l
  have hcp1 : ∀ ty dc sc, (Builtin.copy_ #[156, 156] ty #[.slice (some ⟨b, i + 1, none⟩) (n + 1 - (i + 1)) dc, .slice (some ⟨b, i, none⟩) (n + 1 - i) sc]).run Try.prog w.drew = .ok (goInt ((l.map I).drop i).length) (w.drew.setCells b (i + 1) ((l.map I).drop i)) := fun ty dc sc =>
    run_copy_cells w.drew _ _ ty 3 b (i + 1) (n + 1 - (i + 1)) dc ⟨b, i, none⟩ (n + 1 - i) sc ((l.map I).drop i) Try.underlying156 hsz (by rw [hdl]; simp only [Nat.min_def]; split <;> omega)
      (fun j v hj => by rw [Addr.add_lit]; have h := hcl (i + j) v (by rwa [List.getElem?_drop] at hj); rwa [Nat.zero_add] at h)
      (fun j hj => by have h := hsp (i + 1 + j) (by omega); rwa [Nat.zero_add] at h) (fun j _ => cells_free hg _) (fun v hv => h1c v (List.mem_of_mem_drop hv))
  obtain ⟨W1, hW1⟩ : ∃ W1, W1 = w.drew.setCells b (i + 1) ((l.map I).drop i) := ⟨_, rfl⟩
  have hsp1 : ∀ k, k < n + 1 → (W1.cell? ⟨b, k, none⟩).isSome = true := fun k hk => by
    rw [hW1]
    exact isSome_set b _ _ _ (fun j hj => by have h := hsp (i + 1 + j) (by omega); rwa [Nat.zero_add] at h) _ (by have h := hsp k hk; rwa [Nat.zero_add] at h)
  have hcp2 : ∀ (W : World), (∀ x, W.cell? x = W1.cell? x) → (∀ x, W.frozen? x = W1.frozen? x) → ∀ ty dc, (Builtin.copy_ #[156, 22] ty #[.slice (some ⟨b, i, none⟩) (n + 1 - i) dc, .slice (some ⟨vb, 0, none⟩) 1 vc]).run Try.prog W = .ok (goInt ([I x] : List Value).length) (W.setCells b i [I x]) := fun W hWc hWf ty dc =>
    run_copy_cells W _ _ ty 3 b i (n + 1 - i) dc ⟨vb, 0, none⟩ 1 vc [I x] Try.underlying156 hsz (by simp only [Nat.min_def, List.length_cons, List.length_nil]; split <;> omega)
      (fun j v hj => by
        rw [Addr.add_lit, hWc, hW1, World.cell?_setCells_out b _ _ _ _ (fun h _ => absurd h hvb)]
        exact hvs j v hj)
      (fun j hj => by rw [hWc]; exact hsp1 _ (by simp at hj; omega)) (fun j _ => by rw [hWf, hW1, World.frozen?_setCells]; exact cells_free hg _) (fun u hu => by simp at hu; subst hu; rfl)
  rw [← hW1] at hcp1
  have HW1 := Lib.hid hW1
  have HG := Lib.hid hg
  have HOWN := Lib.hid hown
  have HSP := Lib.hid hsp
  have HCS := Lib.hid hcsz
  have HSP1 := Lib.hid hsp1
  have HCL := Lib.hid hcl
  have HCP1 := Lib.hid hcp1
  have HCP2 := Lib.hid hcp2
  clear hW1 hg hown hsp hsp1 hcl hcp1 hcp2 hfz hvs h1c hv hi0 hz0 hz1 hz2' hsz hdl hcs hcsz hln
  go_enter Try.func149, Try.ntmps149
  go_wp2_with (simp only [hov])
  refine wp_region_Tw [0, 1, 2, 3, 4, 5, 6, 7] [] (.lp 0 (.lp 1 (.lp 2 (.lp 3 (.lp 4 (.lp 5 (.lp 6 (.lp 7 (.hv 8 (.done)))))))))) (by kernel_rfl) (by kernel_rfl) ?_
  (repeat (first | (refine T_lp rfl (fun K hK => ?_); go_simp; refine hK _ ?_; clear hK K) | (refine T_ls rfl rfl (fun K hK => ?_); go_simp; refine hK _ ?_; clear hK K)))
  refine T_hv rfl (by kernel_rfl) (fun K hK => ?_)
  refine step_copy rfl (.tmp 73) (.tmp 76) 156 156 rfl (.slice (some ⟨b, i + 1, none⟩) (n + 1 - (i + 1)) (c - (i + 1))) (.slice (some ⟨b, i, none⟩) (n + 1 - i) (c - i)) ?_ ?_ (HCP1.out _ _ _) ?_
  · simp [Act.eval]
  · simp [Act.eval]
  · (go_simp; refine hK _ _ ?_; clear hK K)
    refine T_done ?_
    have hc2 := HCP2.out W1 (fun _ => rfl) (fun _ => rfl) 3 (c - i)
    go_wp2_with (simp only [hc2])
    go_ret
    refine ⟨_, _, rfl, ?_, ?_⟩
    · obtain ⟨cu1, hc1', hs1⟩ := setCells_heap b ((l.map I).drop i) (i + 1) w.drew cur _ HG.out
      rw [← HW1.out] at hc1'
      obtain ⟨cu2, hc2', hs2⟩ := setCells_heap b [I x] i W1 cu1 _ hc1'
      have hdl : ((l.map I).drop i).length = l.length - i := by simp
      have hll : l.length = n := by have h := HOWN.out.1; simpa using h
      refine own_cells_mk hBb hc2' (by have := HCS.out; omega) hc hcM (by simp [insA_length l x (by omega : i ≤ l.length), hll]) (fun j hj => ?_)
      rw [insA_at l x (by omega : i ≤ l.length) j]
      by_cases h1 : j < i
      · rw [if_pos h1, World.cell?_setCells_out b _ _ _ _ (fun _ _ => by simp; omega), HW1.out, World.cell?_setCells_out b _ _ _ _ (fun _ _ => by simp; omega)]
        exact HOWN.out.cellAt j (by omega)
      · rw [if_neg h1]
        by_cases h2 : j = i
        · subst h2
          rw [if_pos rfl]
          have h := World.cell?_setCells_in b [I x] j W1 (fun t ht => by have := HSP1.out (j + t) (by simp at ht; omega); exact this) 0 (by simp)
          rw [Nat.add_zero] at h
          rw [h]
          rfl
        · rw [if_neg h2, World.cell?_setCells_out b _ _ _ _ (fun _ _ => by simp; omega), HW1.out]
          have h := World.cell?_setCells_in b ((l.map I).drop i) (i + 1) w.drew (fun t ht => by have := HSP.out (i + 1 + t) (by omega); rw [Nat.zero_add] at this; exact this) (j - (i + 1)) (by omega)
          rw [show i + 1 + (j - (i + 1)) = j by omega] at h
          rw [h, List.getElem_drop, List.getElem?_eq_getElem (by simp; omega)]
          congr 2
          omega
    · refine setCells_below hBb _ _ _ _ ?_
      rw [HW1.out]
      exact setCells_below hBb _ _ _ _ (Below.refl _ _).drew

theorem cell_blk {w : World} {b o : Nat} {v : Value} (h : w.cell? ⟨b, o, none⟩ = some v) : b < w.heap.size := by
  unfold World.cell? at h
  simp only at h
  cases hb : w.heap[b]? with
  | none => rw [hb] at h; simp at h
  | some o => exact (Array.getElem?_eq_some_iff.1 hb).1

set_option maxRecDepth 100000 in
set_option maxHeartbeats 4000000 in
theorem insert_grow (B0 : Nat) (b c n i : Nat) (x : Int) (vb vc : Nat) (l : List Int) (w : World) (hln : l.length = n) (hi : i < n) (hn : n ≤ 1000) (hc : c < n + 1) (hB : B0 ≤ w.heap.size)
    (hown : w.ownsRow B0 3 1 (.slice (some ⟨b, 0, none⟩) n c) n (l.map I)) (hv : w.heap[vb]? = some (.cells #[I x] 3 (0, 0))) :
    Calls Try.prog 149 #[.slice (some ⟨b, 0, none⟩) n c, .int .i64 i, .slice (some ⟨vb, 0, none⟩) 1 vc] w fun e w' =>
      ∃ A' c', e = .returned (.slice A' (n + 1) c') ∧ w'.ownsRow B0 3 1 (.slice A' (n + 1) c') (n + 1) ((insA l i x).map I) ∧ Below B0 w w' := by
  obtain ⟨g, cap, cur, hve, hBb, hg, hncap, hcM, hcs, _⟩ := hown.2.resolve_left (fun h => by have := h.1; simp at this)
  simp only [Value.slice.injEq, Option.some.injEq, Addr.mk.injEq, and_true, true_and] at hve
  obtain ⟨rfl, rfl⟩ := hve
  have hcl : ∀ j v, (l.map I)[j]? = some v → w.cell? ⟨b, 0 + j, none⟩ = some v := fun j v hj => by
    have hjl : j < (l.map I).length := (List.getElem?_eq_some_iff.1 hj).1
    rw [Nat.zero_add, hown.cellAt j (by simp at hjl; omega), hj]
  have hvs : ∀ j v, ([I x] : List Value)[j]? = some v → w.cell? ⟨vb, 0 + j, none⟩ = some v := fun j v hj => by
    match j, hj with
    | 0, hj => simp at hj; subst hj; unfold World.cell?; rw [hv]; simp
  have hbw : b < w.heap.size := (Array.getElem?_eq_some_iff.1 hg).1
  have hvw : vb < w.heap.size := (Array.getElem?_eq_some_iff.1 hv).1
  have hz2 : ¬ ((i : Int) = (n : Int)) := by omega
  obtain ⟨i0, hi0, hz0, hz1, hz2'⟩ := info_parts info_int
  have hsz : (Try.prog.info? 3).map (·.size) = some 1 := by rw [hi0]; simp [hz1]
  have hlm : (l.map I).length = n := by simp [hln]
  have hkk : (n : Int) + 1 - (i : Int) = ((n + 1 - i : Nat) : Int) := by omega
  have hik : i + (n + 1 - i) = n + 1 := by omega
  have hold : (Builtin.firstCells i0.size i (.slice (some ⟨b, 0, none⟩) i c)).run Try.prog w.drew = .ok ((l.map I).take i).toArray w.drew := by
    rw [hz1]
    exact run_firstCells_some w.drew 1 i ⟨b, 0, none⟩ i c ((l.map I).take i) (by rw [List.length_take]; omega) (fun j v hj => by
      rw [Addr.add_lit]
      rw [List.getElem?_take] at hj
      split at hj
      · exact hcl j v hj
      · cases hj)
  have hrz : ∀ ty, (Builtin.append_ #[156, 3] ty #[.slice (some ⟨b, 0, none⟩) i c, .int .i64 ((n : Int) + 1 - (i : Int))]).run Try.prog w =
      .ok (.slice (some ⟨w.heap.size, 0, none⟩) (n + 1) (grownCap w (n + 1) c 3)) (w.drew.alloc (.cells (((l.map I).take i).toArray ++ Builtin.zeroCells (Value.int .i64 0).cells (n + 1 - i) ++ Builtin.zeroCells (Value.int .i64 0).cells (grownCap w (n + 1) c 3 - (n + 1))) 3)) := fun ty => by
    have h := Lib.run_append_grow_zeros w 156 3 ty 3 i0 _ .i64 .i64 Try.underlying156 Try.underlying3 hi0 hz0 (some ⟨b, 0, none⟩) i c ((l.map I).take i) hold (n + 1 - i) (by omega) (by omega) (by omega) (by omega) (by rw [hz2']; omega) (by rw [hz2', hik]; exact growslice_fits hc (by omega))
    rw [hik] at h
    rw [hkk]
    exact h
  have hGn : n + 1 ≤ grownCap w (n + 1) c 3 := grownCap_ge w _ _ _
  have hGM : grownCap w (n + 1) c 3 ≤ maxLen := grownCap_le_maxLen w (n + 1) c 3 (by unfold maxLen; omega)
  obtain ⟨G, hG⟩ : ∃ G, G = grownCap w (n + 1) c 3 := ⟨_, rfl⟩
  rw [← hG] at hrz hGn hGM
  obtain ⟨ROW, hROW⟩ : ∃ ROW : Array Value, ROW = ((l.map I).take i).toArray ++ Builtin.zeroCells (Value.int .i64 0).cells (n + 1 - i) ++ Builtin.zeroCells (Value.int .i64 0).cells (G - (n + 1)) := ⟨_, rfl⟩
  have hRs : ROW.size = G := by
    rw [hROW]
    simp [Builtin.zeroCells, Value.cells]
    omega
  have hRat : ∀ j, j < i → ROW[j]? = (l.map I)[j]? := fun j hj => by
    rw [hROW, Array.getElem?_append_left (by simp [Builtin.zeroCells, Value.cells]; omega), Array.getElem?_append_left (by simp; omega)]
    simp [hj]
  rw [← hROW] at hrz
  obtain ⟨W1, hW1⟩ : ∃ W1, W1 = w.drew.alloc (.cells ROW 3) := ⟨_, rfl⟩
  rw [← hW1] at hrz
  have hR1 : ∀ j, W1.cell? ⟨w.heap.size, j, none⟩ = ROW[j]? := fun j => by rw [hW1, World.cell?_alloc_at (w := w.drew) ROW _ w.heap.size j rfl]
  have hN : ∀ j, j < n + 1 → (W1.cell? ⟨w.heap.size, j, none⟩).isSome = true := fun j hj => by
    rw [hR1, Array.getElem?_eq_getElem (by omega)]; rfl
  have hNf : ∀ j, W1.frozen? ⟨w.heap.size, j, none⟩ = false := fun j => by rw [hW1]; exact World.frozen?_alloc_at (w := w.drew) ROW _ w.heap.size j rfl
  have hOb : ∀ j v, w.cell? ⟨b, j, none⟩ = some v → W1.cell? ⟨b, j, none⟩ = some v := fun j v h => by rw [hW1, World.cell?_alloc_past (w := w.drew) _ b j hbw]; exact h
  have hOv : ∀ j v, w.cell? ⟨vb, j, none⟩ = some v → W1.cell? ⟨vb, j, none⟩ = some v := fun j v h => by rw [hW1, World.cell?_alloc_past (w := w.drew) _ vb j hvw]; exact h
  have hbN : b ≠ w.heap.size := by omega
  have hdl : ((l.map I).drop i).length = n - i := by rw [List.length_drop, hlm]
  have h1c : ∀ v ∈ l.map I, v.oneCell' = true := ints_one l
  have hcpA : ∀ (W : World), (∀ x, W.cell? x = W1.cell? x) → (∀ x, W.frozen? x = W1.frozen? x) → ∀ ty dc, (Builtin.copy_ #[156, 22] ty #[.slice (some ⟨w.heap.size, i, none⟩) (n + 1 - i) dc, .slice (some ⟨vb, 0, none⟩) 1 vc]).run Try.prog W = .ok (goInt ([I x] : List Value).length) (W.setCells w.heap.size i [I x]) := fun W hWc hWf ty dc =>
    run_copy_cells W _ _ ty 3 w.heap.size i (n + 1 - i) dc ⟨vb, 0, none⟩ 1 vc [I x] Try.underlying156 hsz (by simp only [Nat.min_def, List.length_cons, List.length_nil]; split <;> omega)
      (fun j v hj => by rw [Addr.add_lit, hWc]; exact hOv _ v (hvs j v hj))
      (fun j hj => by rw [hWc]; exact hN _ (by simp at hj; omega)) (fun j _ => by rw [hWf]; exact hNf _) (fun u hu => by simp at hu; subst hu; rfl)
  have hcpB : ∀ (W : World), (∀ y, W.cell? y = (W1.setCells w.heap.size i [I x]).cell? y) → (∀ y, W.frozen? y = (W1.setCells w.heap.size i [I x]).frozen? y) → ∀ ty dc sc, (Builtin.copy_ #[156, 156] ty #[.slice (some ⟨w.heap.size, i + 1, none⟩) (n + 1 - (i + 1)) dc, .slice (some ⟨b, i, none⟩) (n - i) sc]).run Try.prog W = .ok (goInt ((l.map I).drop i).length) (W.setCells w.heap.size (i + 1) ((l.map I).drop i)) := fun W hWc hWf ty dc sc =>
    run_copy_cells W _ _ ty 3 w.heap.size (i + 1) (n + 1 - (i + 1)) dc ⟨b, i, none⟩ (n - i) sc ((l.map I).drop i) Try.underlying156 hsz (by rw [hdl]; simp only [Nat.min_def]; split <;> omega)
      (fun j v hj => by
        rw [Addr.add_lit, hWc, World.cell?_setCells_out _ _ _ _ _ (fun h _ => absurd h hbN)]
        have h := hcl (i + j) v (by rwa [List.getElem?_drop] at hj)
        rw [Nat.zero_add] at h
        exact hOb _ v h)
      (fun j hj => by rw [hWc]; exact isSome_set _ _ _ _ (fun t ht => hN _ (by simp at ht; omega)) _ (hN _ (by omega)))
      (fun j _ => by rw [hWf, World.frozen?_setCells]; exact hNf _) (fun v hv => h1c v (List.mem_of_mem_drop hv))
  have hGi : ¬ (G = i) := by omega
  have hGim : ¬ (G = i + 1) := by omega
  have hci : ¬ (c = i) := by omega
  have hz3 : (c : Int) < (n : Int) + 1 := by omega
  have hG63 : G ≤ 9223372036854775807 := by unfold maxLen at hGM; omega
  have hw1 : IntKind.i64.wrap ((i : Int) + 1) = (i : Int) + 1 := IntWalk.i64_in _ (by omega)
  have hw2 : IntKind.i64.wrap ((n : Int) + 1) = (n : Int) + 1 := IntWalk.i64_in _ (by omega)
  have hw3 : IntKind.i64.wrap ((n : Int) + 1 - (i : Int)) = (n : Int) + 1 - (i : Int) := IntWalk.i64_in _ (by omega)
  have hb1 : (0 : Int) ≤ (i : Int) + 1 := by omega
  have hin : i ≤ n := by omega
  have htn : ((i : Int) + 1).toNat = i + 1 := by omega
  have hb3 : (i : Int) ≤ (n : Int) := by omega
  have HW1 := Lib.hid hW1
  have HRAT := Lib.hid hRat
  have HR1 := Lib.hid hR1
  have HRS := Lib.hid hRs
  have HN := Lib.hid hN
  have HLM := Lib.hid hlm
  have HCB := Lib.hid hcpB
  have HCA := Lib.hid hcpA
  have HRZ := Lib.hid hrz
  clear hkk hik hold hROW hG hRs hRat hR1 hN hNf hOb hOv hcpA hcpB hrz hown hg hv hcl hvs hi0 hz0 hz1 hz2' hsz hdl h1c hcs hlm hW1 hln
  have hW1s : W1.heap.size = w.heap.size + 1 := by rw [HW1.out]; simp
  have hA1 := HCA.out W1 (fun _ => rfl) (fun _ => rfl) 3 (G - i)
  go_enter Try.func149, Try.ntmps149
  go_wp2_with (first
    | (at_builtin; refine Lib.wpList_append_run _ rfl _ _ _ _ rfl _ _ rfl rfl _ _ (HRZ.out _) ?_)
    | simp only [hA1])
  clear hA1
  refine wp_region_Tw [0, 1, 2, 3, 4, 5, 6, 7] [] (.lp 0 (.lp 1 (.lp 2 (.lp 3 (.lp 4 (.lp 5 (.lp 6 (.lp 7 (.hv 8 (.done)))))))))) (by kernel_rfl) (by kernel_rfl) ?_
  (repeat (first | (refine T_lp rfl (fun K hK => ?_); go_simp; refine hK _ ?_; clear hK K) | (refine T_ls rfl rfl (fun K hK => ?_); go_simp; refine hK _ ?_; clear hK K)))
  refine T_hv rfl (by kernel_rfl) (fun K hK => ?_)
  refine step_copy rfl (.tmp 50) (.tmp 53) 156 156 rfl (.slice (some ⟨w.heap.size, i + 1, none⟩) (n + 1 - (i + 1)) (G - (i + 1))) (.slice (some ⟨b, i, none⟩) (n - i) (c - i)) ?_ ?_ (HCB.out (W1.setCells w.heap.size i [I x]).drew (fun _ => rfl) (fun _ => rfl) _ _ _) ?_
  · simp [Act.eval]
  · simp [Act.eval]
  · (go_simp; refine hK _ _ ?_; clear hK K)
    refine T_done ?_
    go_wp2
    go_ret
    refine ⟨_, _, rfl, ?_, ?_⟩
    · have hg1 : W1.heap[w.heap.size]? = some (.cells ROW 3 (0, 0)) := by rw [HW1.out]; exact Array.getElem?_push_size
      obtain ⟨cu1, hc1', hs1⟩ := setCells_heap w.heap.size [I x] i W1 ROW _ hg1
      obtain ⟨cu2, hc2', hs2⟩ := setCells_heap w.heap.size ((l.map I).drop i) (i + 1) (W1.setCells w.heap.size i [I x]).drew cu1 _ hc1'
      have hdl : ((l.map I).drop i).length = l.length - i := by simp
      have hll : l.length = n := by have h := HLM.out; simpa using h
      refine own_cells_mk hB hc2' (by have := HRS.out; omega) hGn hGM (by simp [insA_length l x (by omega : i ≤ l.length), hll]) (fun j hj => ?_)
      rw [insA_at l x (by omega : i ≤ l.length) j]
      by_cases h1 : j < i
      · rw [if_pos h1, World.cell?_setCells_out _ _ _ _ _ (fun _ _ => by simp; omega)]
        rw [show ((W1.setCells w.heap.size i [I x]).drew).cell? ⟨w.heap.size, j, none⟩ = (W1.setCells w.heap.size i [I x]).cell? ⟨w.heap.size, j, none⟩ from rfl, World.cell?_setCells_out _ _ _ _ _ (fun _ _ => by simp; omega), HR1.out, HRAT.out j h1]
      · rw [if_neg h1]
        by_cases h2 : j = i
        · subst h2
          rw [if_pos rfl, World.cell?_setCells_out _ _ _ _ _ (fun _ _ => by simp)]
          rw [show ((W1.setCells w.heap.size j [I x]).drew).cell? ⟨w.heap.size, j, none⟩ = (W1.setCells w.heap.size j [I x]).cell? ⟨w.heap.size, j, none⟩ from rfl]
          have h := World.cell?_setCells_in w.heap.size [I x] j W1 (fun t ht => HN.out (j + t) (by simp at ht; omega)) 0 (by simp)
          rw [Nat.add_zero] at h
          rw [h]
          rfl
        · rw [if_neg h2]
          have h := World.cell?_setCells_in w.heap.size ((l.map I).drop i) (i + 1) (W1.setCells w.heap.size i [I x]).drew (fun t ht => isSome_set _ _ _ _ (fun t' ht' => HN.out _ (by simp at ht'; omega)) _ (HN.out _ (by omega))) (j - (i + 1)) (by omega)
          rw [show i + 1 + (j - (i + 1)) = j by omega] at h
          rw [h, List.getElem_drop, List.getElem?_eq_getElem (by simp; omega)]
          congr 2
          omega
    · refine setCells_below hB _ _ _ _ ?_
      refine (setCells_below hB _ _ _ _ ?_).drew
      rw [HW1.out]
      exact (Below.refl _ _).drew.alloc hB _
end Go.Proofs.Ytbbjgcagkmlngaa
/- A number put into a rising list. -/
namespace Go.Proofs.Ytbbjgcagkmlngaa
open Go.RowKit

theorem insert_any (B0 : Nat) (A : Option Addr) (c n i : Nat) (x : Int) (vb vc : Nat) (l : List Int) (w : World) (hln : l.length = n) (hi : i ≤ n) (hn : n ≤ 1000) (hB : B0 ≤ w.heap.size)
    (hown : w.ownsRow B0 3 1 (.slice A n c) n (l.map I)) (hv : w.heap[vb]? = some (.cells #[I x] 3 (0, 0))) (hne : (Value.slice A n c).ownBlock ≠ some vb) :
    Calls Try.prog 149 #[.slice A n c, .int .i64 i, .slice (some ⟨vb, 0, none⟩) 1 vc] w fun e w' =>
      ∃ A' c', e = .returned (.slice A' (n + 1) c') ∧ w'.ownsRow B0 3 1 (.slice A' (n + 1) c') (n + 1) ((insA l i x).map I) ∧ Below B0 w w' := by
  by_cases h : i = n
  · subst h
    exact insert_end B0 A c i x vb vc l w hln hn hB hown (by unfold World.cell?; rw [hv]; simp)
  · obtain ⟨g, rfl, _, _, _, _⟩ := own_at hown (by omega)
    by_cases hc : n + 1 ≤ c
    · exact insert_room B0 g c n i x vb vc l w hln (by omega) hn hc hown hv (fun h => hne (by rw [h]; rfl))
    · exact insert_grow B0 g c n i x vb vc l w hln (by omega) hn (by omega) hB hown hv

/-- The list with x at its place. -/
def putI (l : List Int) (x : Int) : List Int := if x ∈ l then l else insA l (cnt l x) x
theorem putI_has {l : List Int} {x : Int} (h : x ∈ l) : putI l x = l := by unfold putI; rw [if_pos h]
theorem putI_new {l : List Int} {x : Int} (h : ¬ x ∈ l) : putI l x = insA l (cnt l x) x := by unfold putI; rw [if_neg h]
theorem cnt_le (l : List Int) (x : Int) : cnt l x ≤ l.length := List.countP_le_length
theorem putI_le (l : List Int) (x : Int) : (putI l x).length ≤ l.length + 1 := by
  unfold putI
  split
  · omega
  · rw [insA_length l x (cnt_le l x)]; omega
theorem insA_getD (l : List Int) {i : Nat} (x : Int) (hi : i ≤ l.length) (j : Nat) : (insA l i x).getD j 0 = if j < i then l.getD j 0 else if j = i then x else l.getD (j - 1) 0 := by
  unfold insA
  rw [List.getD_eq_getElem?_getD]
  by_cases h1 : j < i
  · rw [if_pos h1, List.getElem?_append_left (by simp; omega), List.getElem?_take, if_pos h1, List.getD_eq_getElem?_getD]
  · rw [if_neg h1, List.getElem?_append_right (by simp; omega)]
    have e : (List.take i l).length = i := by simp; omega
    rw [e]
    by_cases h2 : j = i
    · subst h2
      simp
    · rw [if_neg h2, show j - i = (j - i - 1) + 1 by omega, List.getElem?_cons_succ, List.getElem?_drop, List.getD_eq_getElem?_getD, show i + (j - i - 1) = j - 1 by omega]
/-- What lies before the place is less, what lies behind it greater. -/
theorem cnt_parts {l : List Int} (ha : Asc l) (x : Int) : (∀ t, t < cnt l x → l.getD t 0 < x) ∧ ∀ t, cnt l x ≤ t → t < l.length → x ≤ l.getD t 0 := by
  have key : ∀ n, n ≤ l.length → ∃ i, i ≤ n ∧ (∀ t, t < i → l.getD t 0 < x) ∧ ∀ t, i ≤ t → t < n → x ≤ l.getD t 0 := by
    intro n
    induction n with
    | zero => intro _; exact ⟨0, by omega, fun t h => absurd h (by omega), fun t _ h => absurd h (by omega)⟩
    | succ n ih =>
      intro hn
      obtain ⟨i, h1, h2, h3⟩ := ih (by omega)
      by_cases hi : i = n
      · by_cases hx : l.getD n 0 < x
        · refine ⟨n + 1, by omega, fun t ht => ?_, fun t h h' => absurd h (by omega)⟩
          rcases Nat.lt_or_eq_of_le (Nat.le_of_lt_succ ht) with h | rfl
          · exact h2 t (by omega)
          · exact hx
        · refine ⟨i, by omega, h2, fun t h h' => ?_⟩
          have : t = n := by omega
          subst this
          omega
      · refine ⟨i, by omega, h2, fun t h h' => ?_⟩
        rcases Nat.lt_or_eq_of_le (Nat.le_of_lt_succ h') with h'' | rfl
        · exact h3 t h h''
        · have := h3 i (Nat.le_refl _) (by omega)
          have := ha i t (by omega) (by omega)
          omega
  obtain ⟨i, h1, h2, h3⟩ := key l.length (Nat.le_refl _)
  rw [cnt_at h1 h2 h3]
  exact ⟨h2, h3⟩
theorem mem_getD {l : List Int} {t : Nat} (h : t < l.length) : l.getD t 0 ∈ l := by
  have e : l.getD t 0 = l[t] := by simp [h]
  rw [e]
  exact List.getElem_mem h
theorem putI_asc {l : List Int} (ha : Asc l) (x : Int) : Asc (putI l x) := by
  by_cases hx : x ∈ l
  · rw [putI_has hx]; exact ha
  · rw [putI_new hx]
    obtain ⟨h1, h2⟩ := cnt_parts ha x
    have hc := cnt_le l x
    intro i j hij hj
    rw [insA_length l x hc] at hj
    rw [insA_getD l x hc, insA_getD l x hc]
    have h3 : ∀ t, cnt l x ≤ t → t < l.length → x < l.getD t 0 := fun t h h' => by
      have := h2 t h h'
      rcases Int.lt_or_eq_of_le this with h4 | h4
      · exact h4
      · exact absurd (h4 ▸ mem_getD h') hx
    by_cases c1 : i < cnt l x
    · rw [if_pos c1]
      by_cases c2 : j < cnt l x
      · rw [if_pos c2]; exact ha i j hij (by omega)
      · rw [if_neg c2]
        by_cases c3 : j = cnt l x
        · rw [if_pos c3]; exact h1 i c1
        · rw [if_neg c3]; exact ha i (j - 1) (by omega) (by omega)
    · rw [if_neg c1, if_neg (by omega : ¬ j < cnt l x), if_neg (by omega : ¬ j = cnt l x)]
      by_cases c3 : i = cnt l x
      · rw [if_pos c3]; exact h3 (j - 1) (by omega) (by omega)
      · rw [if_neg c3]; exact ha (i - 1) (j - 1) (by omega) (by omega)

set_option maxRecDepth 100000 in
set_option maxHeartbeats 2000000 in
theorem with_any (B : Nat) (A : Option Addr) (c : Nat) (l : List Int) (x : Int) (w : World) (hm : l.length ≤ 500) (ha : Asc l) (hA : l = [] → A = none ∧ c = 0) (hB : B ≤ w.heap.size) (hr : Rd w B 1 A l.length (l.map I)) :
    Calls Try.prog 137 #[.slice A l.length c, .int .i64 x] w fun e w' =>
      ∃ A' c', e = .returned (.slice A' (putI l x).length c') ∧ OwI w' w.heap.size (.slice A' (putI l x).length c') (putI l x) ∧ Below w.heap.size w w' := by
  have hcl : Calls Try.prog 147 #[.slice A l.length c] w fun e w' => ∃ A' c', e = .returned (.slice A' l.length c') ∧ OwI w' w.heap.size (.slice A' l.length c') l ∧ Below w.heap.size w w' := by
    by_cases h0 : 0 < l.length
    · exact cloneA_any B A c l w (by omega) h0 hB hr
    · have hl : l = [] := List.eq_nil_of_length_eq_zero (by omega)
      obtain ⟨rfl, rfl⟩ := hA hl
      subst hl
      refine (cloneA_nil w).mono ?_
      rintro e w' ⟨rfl, rfl⟩
      exact ⟨none, 0, rfl, OwI.nil _ _, Below.refl _ _⟩
  have hF := fun (W : World) (hb : Below w.heap.size w W) => find_any B A c l x W (by omega) ha (hr.below' hb hB)
  have hcx := cnt_le l x
  obtain ⟨a, haa⟩ : ∃ a, cnt l x = a := ⟨_, rfl⟩
  rw [haa] at hF hcx
  have HCL := Lib.hid hcl
  have AA := Lib.hid haa
  clear hcl hr ha hA haa
  by_cases hx : x ∈ l
  · rw [decide_eq_true hx] at hF
    have P := Lib.hid (putI_has hx)
    have HF := Lib.hid hF
    clear hF hx
    go_enter Try.func137, Try.ntmps137
    go_wp2_with (first
      | (go_at_call 147; refine HCL.out.mono ?_; rintro e w2 ⟨A2, c2, rfl, hown2, hb2⟩; have OW2 := Lib.hid hown2; have HB2 := Lib.hid hb2; clear hown2 hb2)
      | (go_at_call 148; refine (HF.out w2 HB2.out).mono ?_; rintro e w3 ⟨rfl, ⟨nd, rfl⟩⟩))
    go_ret
    exact ⟨A2, c2, by rw [P.out]; rfl, by rw [P.out]; exact OwI.drewN OW2.out nd, bDrewN HB2.out nd⟩
  · rw [decide_eq_false hx] at hF
    have P := Lib.hid (putI_new hx)
    have HF := Lib.hid hF
    clear hF hx
    obtain ⟨N, hN⟩ : ∃ N, l.length = N := ⟨_, rfl⟩
    have HN := Lib.hid hN
    have hNb : N ≤ 500 := by omega
    have haN : a ≤ N := by omega
    have HCL' := HCL.out
    have HF' := HF.out
    rw [hN] at HCL' HF'
    rw [hN]
    have C1 := Lib.hid HCL'
    have F1 := Lib.hid HF'
    clear HCL' HF' HCL HF hN hm hcx
    go_enter Try.func137, Try.ntmps137
    go_wp2_with (first
      | (go_at_call 147; refine C1.out.mono ?_; rintro e w2 ⟨A2, c2, rfl, hown2, hb2⟩; have OW2 := Lib.hid (show w2.ownsRow w.heap.size 3 1 (.slice A2 N c2) N (l.map I) from (by have h := hown2; unfold OwI at h; rw [HN.out] at h; exact h)); have HB2 := Lib.hid hb2; have hs2 : w.heap.size ≤ w2.heap.size := hb2.size; clear hown2 hb2)
      | (go_at_call 148; refine (F1.out w2 HB2.out).mono ?_; rintro e w3 ⟨rfl, ⟨nd, rfl⟩⟩))
    go_at_call 149
    generalize hw4 : World.alloc _ _ = w4
    have hg4 : w4.heap[w2.heap.size]? = some (.cells #[I x] 3 (0, 0)) := by rw [← hw4]; exact Array.getElem?_push_size
    have hb4 : Below w2.heap.size w2 w4 := by rw [← hw4]; exact (bDrewN (Below.refl _ _) nd).alloc (Nat.le_refl _) _
    clear hw4
    have hown4 := own_below OW2.out hb4
    have hne : (Value.slice A2 N c2).ownBlock ≠ some w2.heap.size := fun h => by
      have := (own_block OW2.out _ h).2
      omega
    refine (insert_any w.heap.size A2 c2 N a x w2.heap.size 1 l w4 HN.out haN (by omega) (by have := hb4.size; omega) hown4 hg4 hne).mono ?_
    rintro e w5 ⟨A5, c5, rfl, hown5, hb5⟩
    have hpl : (putI l x).length = N + 1 := by rw [P.out, AA.out, insA_length l x (by have := HN.out; omega), HN.out]
    have HB5 := Lib.hid ((HB2.out.trans (hb4.mono hs2)).trans hb5)
    have OW5 := Lib.hid (show OwI w5 w.heap.size (.slice A5 (N + 1) c5) (putI l x) from (by unfold OwI; rw [hpl, P.out, AA.out]; exact hown5))
    have HPL := Lib.hid hpl
    clear hown5 hb5 hown4 hb4 hg4 hne hpl
    go_wp2
    go_ret
    exact ⟨A5, c5, by rw [HPL.out]; rfl, by rw [HPL.out]; exact OW5.out, HB5.out⟩
end Go.Proofs.Ytbbjgcagkmlngaa
/- What is in both of two chains. -/
namespace Go.Proofs.Ytbbjgcagkmlngaa
open Go.RowKit

theorem hasI_mem (l : List Int) (n : Int) : hasI l n = decide (n ∈ l) := by unfold hasI; exact List.contains_eq_mem n l
def metK (a b : List Int) (k : Nat) : List Int := (a.take k).filter fun n => hasI b n
def met (a b : List Int) : List Int := a.filter fun n => hasI b n
theorem metK_end (a b : List Int) : metK a b a.length = met a b := by unfold metK met; rw [List.take_length]
theorem metK_hit {a b : List Int} {k : Nat} (hk : k < a.length) (h : hasI b (a.getD k 0) = true) : metK a b (k + 1) = metK a b k ++ [a.getD k 0] := by
  unfold metK
  rw [take_succ_getD hk, List.filter_append]
  simp only [List.filter_cons, List.filter_nil, h]
  rfl
theorem metK_miss {a b : List Int} {k : Nat} (hk : k < a.length) (h : hasI b (a.getD k 0) = false) : metK a b (k + 1) = metK a b k := by
  unfold metK
  rw [take_succ_getD hk, List.filter_append]
  simp only [List.filter_cons, List.filter_nil, h]
  simp
theorem metK_le (a b : List Int) (k : Nat) : (metK a b k).length ≤ k := by
  unfold metK
  exact Nat.le_trans (List.length_filter_le _ _) (by simp; omega)
theorem met_le (a b : List Int) : (met a b).length ≤ a.length := List.length_filter_le _ _
def meG (a b : List Int) : Bool := (chG a && chG b) && chG (met a b)

end Go.Proofs.Ytbbjgcagkmlngaa
/- A number put into a rising list, by the model. -/
namespace Go.Proofs.Ytbbjgcagkmlngaa
open Go.RowKit

theorem Rd.drop {w : World} {B : Nat} {b off k : Nat} {l : List Int} (h : Rd w B 1 (some ⟨b, off, none⟩) l.length (l.map I)) (hk : k < l.length) : Rd w B 1 (some ⟨b, off + k, none⟩) (l.length - k) ((l.drop k).map I) := by
  refine ⟨by simp, fun _ => ?_⟩
  obtain ⟨b', off', e, hb, hc⟩ := h.2 (by omega)
  simp only [Option.some.injEq, Addr.mk.injEq, and_true] at e
  obtain ⟨rfl, rfl⟩ := e
  refine ⟨b, off + k, rfl, hb, fun j hj => ?_⟩
  rw [Nat.add_assoc, hc (k + j) (by omega), List.map_drop, List.getElem?_drop]
theorem put_below2 {B : Nat} {w : World} {o1 o2 : Obj} {w2 w3 : World} (hB : B ≤ w.heap.size) (h2 : Below B (w.alloc o1) w2) (h3 : Below B (w2.alloc o2) w3) : Below B w w3 := by
  have h1 : Below B w w2 := ((Below.refl _ _).alloc hB _).trans h2
  exact (h1.alloc (Nat.le_trans hB h1.size) _).trans h3

set_option maxRecDepth 100000 in
set_option maxHeartbeats 2000000 in
theorem l1PutN_any (B : Nat) (A : Option Addr) (c : Nat) (l : List Int) (x : Int) (w : World) (hm : l.length ≤ 1000) (ha : Asc l) (hx : ¬ x ∈ l) (hcap : l.length ≤ c) (hB : B ≤ w.heap.size) (hr : Rd w B 1 A l.length (l.map I)) :
    Calls Try.prog 114 #[.slice A l.length c, .int .i64 x] w fun e w' => ∃ A' c', e = .returned (.slice A' (putI l x).length c') ∧ OwI w' w.heap.size (.slice A' (putI l x).length c') (putI l x) ∧ Below w.heap.size w w' := by
  have H := Lib.hid hr
  obtain ⟨p1, p2⟩ := cnt_parts ha x
  have P1 := Lib.hid p1
  have P2 := Lib.hid p2
  have hcx := cnt_le l x
  have P := Lib.hid (putI_new hx)
  have hpl : (putI l x).length = l.length + 1 := by rw [P.out, insA_length l x hcx]
  have HPL := Lib.hid hpl
  have HX := Lib.hid hx
  obtain ⟨a, haa⟩ : ∃ a, cnt l x = a := ⟨_, rfl⟩
  rw [haa] at hcx
  have AA := Lib.hid haa
  have HAS := Lib.hid ha
  clear hr p1 p2 hpl hx haa ha
  have hbig : (l.length : Int) ≤ 1000 := by omega
  go_enter Try.func114, Try.ntmps114
  go_wp2
  go_loop [5] (fun i => ∃ k : Nat, k ≤ a ∧ i = .int .i64 k) (fun i => a - (intOf i).toNat)
  case atStart => exact ⟨0, by omega, rfl⟩
  case round =>
    obtain ⟨k, hk, rfl⟩ := hrel
    by_cases hka : k < a
    · obtain ⟨b, off, rfl, hb, hc⟩ := H.out.cells (by omega)
      have ck := hc k (by omega)
      have hlt : l.getD k 0 < x := P1.out k (by rw [AA.out]; exact hka)
      obtain ⟨y, hy⟩ : ∃ y, l.getD k 0 = y := ⟨_, rfl⟩
      rw [hy] at ck hlt
      have ik : (k : Int) < (l.length : Int) := by omega
      clear hc hy
      go_wp2
      go_round
      case rel => exact ⟨k + 1, by omega, by go_num⟩
      case measure => simp [intOf]; omega
    · have e : k = a := by omega
      subst e
      have ikc : (k : Int) ≤ (c : Int) := by omega
      have hins : (insA l k x).map I = (l.take k).map I ++ [I x] ++ (l.drop k).map I := by unfold insA; rw [List.map_append, List.map_cons]; simp
      have HINS := Lib.hid hins
      clear hins
      by_cases hl : k < l.length
      · obtain ⟨b, off, rfl, hb, hc⟩ := H.out.cells (by omega)
        have ck := hc k hl
        have hge := P2.out k (by rw [AA.out]; exact Nat.le_refl _) hl
        obtain ⟨y, hy⟩ : ∃ y, l.getD k 0 = y := ⟨_, rfl⟩
        have hne : ¬ y = x := fun h => HX.out (by rw [← h, ← hy]; exact mem_getD hl)
        rw [hy] at ck hge
        have h1 : ¬ y < x := by omega
        have hyx : (y == x) = false := by simpa using hne
        have ik : (k : Int) < (l.length : Int) := by omega
        have ikl : (k : Int) ≤ (l.length : Int) := by omega
        have hcn : ¬ (c = k) := by omega
        have T1 := Lib.hid (fun (W : World) (hb : Below w.heap.size w W) => (H.out.below' hb hB).take (n := k) (by omega))
        have T2 := Lib.hid (fun (W : World) (hb : Below w.heap.size w W) => (H.out.below' hb hB).drop hl)
        clear hc hy hge hne
        go_wp2_with (first
          | (at_builtin; refine list_step (fun K hK => ?_); refine step_appM Try.underlying22 info_int rfl (by omega) (by omega) rfl (.tmp 34) (.tmp 37) rfl w.heap.size 0 _ [] rfl (own_empty 1 (Nat.le_refl _)) _ k _ ((l.take k).map I) rfl (T1.out _ ((Below.refl _ _).alloc (Nat.le_refl _) _)) (ints_one _) (by omega) (by simp) ?_; intro A2 c2 w2 hown2 hg2 hbel2; simp only [Nat.zero_add, List.nil_append] at hown2; go_simp; refine hK _ _ ?_; clear hK K)
          | (at_builtin; refine list_step (fun K hK => ?_); refine step_app1 Try.underlying22 info_int rfl (by omega) rfl (.tmp 39) (.tmp 41) rfl w.heap.size _ _ _ rfl (World.ownsRow.alloc hown2 _) w2.heap.size 1 (I x) rfl (by simp) rfl (by omega) (by have := hbel2.size; simp at this; simp; omega) ?_; intro A3 c3 w3 hown3 hg3 hbel3; go_simp; refine hK _ _ ?_; clear hK K)
          | (at_builtin; refine list_step (fun K hK => ?_); have hb23 := put_below2 (Nat.le_refl _) hbel2 hbel3; refine step_appM Try.underlying22 info_int rfl (by omega) (by omega) rfl (.tmp 43) (.tmp 46) rfl w.heap.size _ _ _ rfl hown3 _ (l.length - k) _ ((l.drop k).map I) rfl (T2.out _ hb23) (ints_one _) (by omega) hb23.size ?_; intro A4 c4 w4 hown4 hg4 hbel4; go_simp; refine hK _ _ ?_; clear hK K))
        go_ret
        refine ⟨A4, c4, ret_slice (by have := HPL.out; omega), ?_, (put_below2 (Nat.le_refl _) hbel2 hbel3).trans hbel4⟩
        have h := hown4
        rw [show k + 1 + (l.length - k) = (putI l x).length by have := HPL.out; omega] at h
        unfold OwI
        rw [P.out, AA.out, HINS.out] at *
        simpa using h
      · have e : k = l.length := by omega
        have T1 := Lib.hid (fun (W : World) (hb : Below w.heap.size w W) => (H.out.below' hb hB).take (n := k) (by omega))
        have HE := Lib.hid e
        have hfin : ∀ (A4 : Option Addr) (c4 : Nat) (w4 : World), w4.ownsRow w.heap.size 3 1 (.slice A4 (k + 1 + 0) c4) (k + 1 + 0) ((l.take k).map I ++ [I x] ++ []) → OwI w4 w.heap.size (.slice A4 (putI l x).length c4) (putI l x) := fun A4 c4 w4 h => by
          rw [show k + 1 + 0 = (putI l x).length by have := HPL.out; have := HE.out; omega] at h
          unfold OwI
          have hd : l.drop k = [] := List.drop_of_length_le (by have := HE.out; omega)
          have hi := HINS.out
          rw [hd] at hi
          rw [P.out, AA.out, hi] at *
          simpa using h
        have FIN := Lib.hid hfin
        obtain ⟨N, hN⟩ : ∃ N, l.length = N := ⟨_, rfl⟩
        rw [hN] at e
        subst e
        rw [hN] at *
        have HN := Lib.hid hN
        clear hfin hN
        have hsl : ∀ n : Nat, n - n = 0 := fun n => Nat.sub_self n
        by_cases hck : c = k
        · subst hck
          go_wp2_with (first
            | (at_builtin; refine list_step (fun K hK => ?_); refine step_appM Try.underlying22 info_int rfl (by omega) (by omega) rfl (.tmp 34) (.tmp 37) rfl w.heap.size 0 _ [] rfl (own_empty 1 (Nat.le_refl _)) _ c _ ((l.take c).map I) rfl (T1.out _ ((Below.refl _ _).alloc (Nat.le_refl _) _)) (ints_one _) (by omega) (by simp) ?_; intro A2 c2 w2 hown2 hg2 hbel2; simp only [Nat.zero_add, List.nil_append] at hown2; go_simp; refine hK _ _ ?_; clear hK K)
            | (at_builtin; refine list_step (fun K hK => ?_); refine step_app1 Try.underlying22 info_int rfl (by omega) rfl (.tmp 39) (.tmp 41) rfl w.heap.size _ _ _ rfl (World.ownsRow.alloc hown2 _) w2.heap.size 1 (I x) rfl (by simp) rfl (by omega) (by have := hbel2.size; simp at this; simp; omega) ?_; intro A3 c3 w3 hown3 hg3 hbel3; go_simp; refine hK _ _ ?_; clear hK K)
            | (at_builtin; refine list_step (fun K hK => ?_); have hb23 := put_below2 (Nat.le_refl _) hbel2 hbel3; refine step_appM Try.underlying22 info_int rfl (by omega) (by omega) rfl (.tmp 43) (.tmp 46) rfl w.heap.size _ _ _ rfl hown3 _ 0 _ [] rfl (Rd.nil _ 0 _ _) (by simp) (by omega) hb23.size ?_; intro A4 c4 w4 hown4 hg4 hbel4; go_simp; refine hK _ _ ?_; clear hK K))
          all_goals
            go_ret
            exact ⟨A4, c4, ret_slice (by have := HPL.out; have := HE.out; omega), FIN.out A4 c4 w4 hown4, (put_below2 (Nat.le_refl _) hbel2 hbel3).trans hbel4⟩
        · have hck' : ¬ (k = c) := fun h => hck h.symm
          go_wp2_with (first
            | (at_builtin; refine list_step (fun K hK => ?_); refine step_appM Try.underlying22 info_int rfl (by omega) (by omega) rfl (.tmp 34) (.tmp 37) rfl w.heap.size 0 _ [] rfl (own_empty 1 (Nat.le_refl _)) _ k _ ((l.take k).map I) rfl (T1.out _ ((Below.refl _ _).alloc (Nat.le_refl _) _)) (ints_one _) (by omega) (by simp) ?_; intro A2 c2 w2 hown2 hg2 hbel2; simp only [Nat.zero_add, List.nil_append] at hown2; go_simp; refine hK _ _ ?_; clear hK K)
            | (at_builtin; refine list_step (fun K hK => ?_); refine step_app1 Try.underlying22 info_int rfl (by omega) rfl (.tmp 39) (.tmp 41) rfl w.heap.size _ _ _ rfl (World.ownsRow.alloc hown2 _) w2.heap.size 1 (I x) rfl (by simp) rfl (by omega) (by have := hbel2.size; simp at this; simp; omega) ?_; intro A3 c3 w3 hown3 hg3 hbel3; go_simp; refine hK _ _ ?_; clear hK K)
            | (at_builtin; refine list_step (fun K hK => ?_); have hb23 := put_below2 (Nat.le_refl _) hbel2 hbel3; refine step_appM Try.underlying22 info_int rfl (by omega) (by omega) rfl (.tmp 43) (.tmp 46) rfl w.heap.size _ _ _ rfl hown3 _ 0 _ [] rfl (Rd.nil _ 0 _ _) (by simp) (by omega) hb23.size ?_; intro A4 c4 w4 hown4 hg4 hbel4; go_simp; refine hK _ _ ?_; clear hK K))
          all_goals
            go_ret
            exact ⟨A4, c4, ret_slice (by have := HPL.out; have := HE.out; omega), FIN.out A4 c4 w4 hown4, (put_below2 (Nat.le_refl _) hbel2 hbel3).trans hbel4⟩
end Go.Proofs.Ytbbjgcagkmlngaa
/- A number put into a chain. -/
namespace Go.Proofs.Ytbbjgcagkmlngaa
open Go.RowKit

theorem mem_putI (l : List Int) (x : Int) : x ∈ putI l x := by
  unfold putI
  split
  · assumption
  · unfold insA
    exact List.mem_append_right _ List.mem_cons_self
theorem chG_mem {r : List Int} {x : Int} (h : chG r = true) (hx : x ∈ r) : isNum x = true := by
  obtain ⟨i, hi, rfl⟩ := List.mem_iff_getElem.1 hx
  have h1 := (chG_chn h).rng i hi
  have e : r.getD i 0 = r[i] := by simp [hi]
  rw [e] at h1
  unfold isNum inB
  simpa using h1
def inG (l : List Int) (x : Int) : Bool := (chG l && !hasI l x) && chG (putI l x)
theorem hasI_not {l : List Int} {x : Int} (h : hasI l x = false) : ¬ x ∈ l := by rw [hasI_mem] at h; simpa using h

end Go.Proofs.Ytbbjgcagkmlngaa
/- What is in one of two chains. -/
namespace Go.Proofs.Ytbbjgcagkmlngaa
open Go.RowKit

theorem mem_at_cnt {l : List Int} (ha : Asc l) {x : Int} (hx : x ∈ l) : cnt l x < l.length ∧ l.getD (cnt l x) 0 = x := by
  obtain ⟨h1, h2⟩ := cnt_parts ha x
  have h := mem_at ha (cnt_le l x) h1 h2
  rw [decide_eq_true hx] at h
  exact of_decide_eq_true h.symm

set_option maxRecDepth 100000 in
set_option maxHeartbeats 1000000 in
/-- Of a number that is there the list itself is answered. -/
theorem l1PutH_any (B : Nat) (A : Option Addr) (c : Nat) (l : List Int) (x : Int) (w : World) (hm : l.length ≤ 1000) (ha : Asc l) (hx : x ∈ l) (hr : Rd w B 1 A l.length (l.map I)) :
    Calls Try.prog 114 #[.slice A l.length c, .int .i64 x] w fun e w' => e = .returned (.slice A l.length c) ∧ w = w' := by
  obtain ⟨q1, q2⟩ := mem_at_cnt ha hx
  obtain ⟨p1, _⟩ := cnt_parts ha x
  obtain ⟨b, off, rfl, hb, hc⟩ := hr.cells (by omega)
  have HC := Lib.hid hc
  have P1 := Lib.hid p1
  obtain ⟨a, haa⟩ : ∃ a, cnt l x = a := ⟨_, rfl⟩
  rw [haa] at q1 q2
  have AA := Lib.hid haa
  have Q2 := Lib.hid q2
  clear hr hc ha hx p1 haa q2
  go_enter Try.func114, Try.ntmps114
  go_wp2
  go_loop [5] (fun i => ∃ k : Nat, k ≤ a ∧ i = .int .i64 k) (fun i => a - (intOf i).toNat)
  case atStart => exact ⟨0, by omega, rfl⟩
  case round =>
    obtain ⟨k, hk, rfl⟩ := hrel
    have ck := HC.out k (by omega)
    have ik : (k : Int) < (l.length : Int) := by omega
    by_cases hka : k < a
    · have hlt : l.getD k 0 < x := P1.out k (by rw [AA.out]; exact hka)
      obtain ⟨y, hy⟩ : ∃ y, l.getD k 0 = y := ⟨_, rfl⟩
      rw [hy] at ck hlt
      clear hy
      go_wp2
      go_round
      case rel => exact ⟨k + 1, by omega, by go_num⟩
      case measure => simp [intOf]; omega
    · have e : k = a := by omega
      subst e
      rw [Q2.out] at ck
      go_wp2
      go_ret
      exact ⟨rfl, rfl⟩

set_option maxHeartbeats 1000000 in
theorem l1PutO_any (B0 : Nat) (A : Option Addr) (c : Nat) (l : List Int) (x : Int) (w : World) (hm : l.length ≤ 1000) (ha : Asc l) (hB : B0 ≤ w.heap.size) (hown : OwI w B0 (.slice A l.length c) l) :
    Calls Try.prog 114 #[.slice A l.length c, .int .i64 x] w fun e w' => ∃ A' c', e = .returned (.slice A' (putI l x).length c') ∧ OwI w' B0 (.slice A' (putI l x).length c') (putI l x) ∧ Below w.heap.size w w' := by
  by_cases hx : x ∈ l
  · refine (l1PutH_any w.heap.size A c l x w hm ha hx hown.rd).mono ?_
    rintro e w' ⟨rfl, rfl⟩
    rw [putI_has hx]
    exact ⟨A, c, rfl, hown, Below.refl _ _⟩
  · refine (l1PutN_any w.heap.size A c l x w hm ha hx hown.cap (Nat.le_refl _) hown.rd).mono ?_
    rintro e w' ⟨A', c', rfl, h1, h2⟩
    exact ⟨A', c', rfl, h1.base hB, h2⟩

def uniK (a b : List Int) (k : Nat) : List Int := (b.take k).foldl putI a
def uni (a b : List Int) : List Int := b.foldl putI a
theorem uniK_end (a b : List Int) : uniK a b b.length = uni a b := by unfold uniK uni; rw [List.take_length]
theorem uniK_zero (a b : List Int) : uniK a b 0 = a := rfl
theorem uniK_succ {a b : List Int} {k : Nat} (hk : k < b.length) : uniK a b (k + 1) = putI (uniK a b k) (b.getD k 0) := by
  unfold uniK
  rw [take_succ_getD hk, List.foldl_append]
  rfl
theorem uniK_ok {a b : List Int} (ha : Asc a) (h0 : 1 ≤ a.length) : ∀ k, k ≤ b.length → Asc (uniK a b k) ∧ 1 ≤ (uniK a b k).length ∧ (uniK a b k).length ≤ a.length + k := by
  intro k
  induction k with
  | zero => intro _; rw [uniK_zero]; exact ⟨ha, h0, by omega⟩
  | succ k ih =>
    intro hk
    obtain ⟨h1, h2, h3⟩ := ih (by omega)
    rw [uniK_succ (by omega)]
    refine ⟨putI_asc h1 _, ?_, ?_⟩
    · have := List.length_pos_of_mem (mem_putI (uniK a b k) (b.getD k 0))
      omega
    · have := putI_le (uniK a b k) (b.getD k 0)
      omega
def unG (a b : List Int) : Bool := (chG a && chG b) && chG (uni a b)

end Go.Proofs.Ytbbjgcagkmlngaa
/- The exponents of a plan with one input; sorted, they are a chain. -/
namespace Go.Proofs.Ytbbjgcagkmlngaa
open Go.RowKit

def evS (out : List Int) (st : Int × Int) : List Int := out ++ [leastI (out.getD st.1.toNat 0 + out.getD st.2.toNat 0) 1000001]
def ev (s : List (Int × Int)) : List Int := s.foldl evS [1]
theorem ev_take {s : List (Int × Int)} {k : Nat} (hk : k < s.length) : ev (s.take (k + 1)) = evS (ev (s.take k)) s[k] := by
  unfold ev
  rw [List.take_succ_eq_append_getElem hk, List.foldl_append]
  rfl
theorem ev_length (s : List (Int × Int)) : ∀ k, k ≤ s.length → (ev (s.take k)).length = k + 1 := by
  intro k
  induction k with
  | zero => intro _; rfl
  | succ k ih =>
    intro hk
    rw [ev_take (by omega)]
    unfold evS
    rw [List.length_append, ih (by omega)]
    rfl
theorem getD_map1 (l : List Int) {a : Nat} (ha : a < l.length) : (l.map fun e => [e]).getD a [] = [l.getD a 0] := by simp [ha]
theorem exps_ev {s : List (Int × Int)} (hok : OkS 1 s) : ∀ k, k ≤ s.length → exps 1 (s.take k) = (ev (s.take k)).map fun e => [e] := by
  intro k
  induction k with
  | zero => intro _; rfl
  | succ k ih =>
    intro hk
    have hk' : k < s.length := by omega
    obtain ⟨h1, h2, h3⟩ := hok k hk'
    have hl := ev_length s k (by omega)
    rw [exps_take 1 hk', ev_take hk', ih (by omega)]
    unfold expStep evS
    rw [getD_map1 _ (by omega), getD_map1 _ (by omega), List.map_append]
    rfl
theorem ev_pre {s : List (Int × Int)} : ∀ n k, k ≤ n → n ≤ s.length → ∀ i, i < k + 1 → (ev (s.take n)).getD i 0 = (ev (s.take k)).getD i 0 := by
  intro n
  induction n with
  | zero => intro k hk _ i _; rw [show k = 0 by omega]
  | succ n ih =>
    intro k hk hn i hi
    rcases Nat.lt_or_eq_of_le hk with h | rfl
    · rw [ev_take (by omega)]
      unfold evS
      have hl := ev_length s n (by omega)
      rw [List.getD_eq_getElem?_getD, List.getElem?_append_left (by omega), ← List.getD_eq_getElem?_getD]
      exact ih k (by omega) (by omega) i hi
    · rfl
/-- Of exponents within their bounds each is a sum. -/
theorem ev_sums {s : List (Int × Int)} (hok : OkS 1 s) (hb : expsB (exps 1 s) = true) :
    (ev s).length = s.length + 1 ∧ (ev s).getD 0 0 = 1 ∧ (∀ i, i < s.length + 1 → 1 ≤ (ev s).getD i 0 ∧ (ev s).getD i 0 ≤ 1000000) ∧
      ∀ k, k < s.length → ∃ a b : Nat, a ≤ b ∧ b < k + 1 ∧ (ev s).getD (k + 1) 0 = (ev s).getD a 0 + (ev s).getD b 0 := by
  have hfull : s.take s.length = s := List.take_of_length_le (Nat.le_refl _)
  have hlen := ev_length s s.length (Nat.le_refl _)
  rw [hfull] at hlen
  have hE := exps_ev hok s.length (Nat.le_refl _)
  rw [hfull] at hE
  have hle : ∀ i, i < s.length + 1 → 0 ≤ (ev s).getD i 0 ∧ (ev s).getD i 0 ≤ 1000000 := fun i hi => by
    have hm : [(ev s).getD i 0] ∈ exps 1 s := by
      rw [hE]
      exact List.mem_map.2 ⟨(ev s).getD i 0, mem_getD (by omega), rfl⟩
    unfold expsB at hb
    rw [List.all_eq_true] at hb
    have h := hb _ hm
    unfold allB at h
    simpa [inB] using h
  have h0 : (ev s).getD 0 0 = 1 := by
    have h := ev_pre (s := s) s.length 0 (by omega) (Nat.le_refl _) 0 (by omega)
    rw [hfull] at h
    rw [h]
    rfl
  have hsum : ∀ k, k < s.length → ∃ a b : Nat, a ≤ b ∧ b < k + 1 ∧ (ev s).getD (k + 1) 0 = (ev s).getD a 0 + (ev s).getD b 0 := fun k hk => by
    obtain ⟨h1, h2, h3⟩ := hok k hk
    refine ⟨(s[k]).1.toNat, (s[k]).2.toNat, by omega, by omega, ?_⟩
    have p1 := ev_pre (s := s) s.length (k + 1) (by omega) (Nat.le_refl _) (k + 1) (by omega)
    have p2 := ev_pre (s := s) s.length k (by omega) (Nat.le_refl _) (s[k]).1.toNat (by omega)
    have p3 := ev_pre (s := s) s.length k (by omega) (Nat.le_refl _) (s[k]).2.toNat (by omega)
    rw [hfull] at p1 p2 p3
    have hl := ev_length s k (by omega)
    have e : (ev (s.take (k + 1))).getD (k + 1) 0 = leastI ((ev (s.take k)).getD (s[k]).1.toNat 0 + (ev (s.take k)).getD (s[k]).2.toNat 0) 1000001 := by
      rw [ev_take hk]
      unfold evS
      rw [List.getD_eq_getElem?_getD, List.getElem?_append_right (by omega), hl]
      simp
    rw [p2, p3]
    rw [e] at p1
    have hb1 := hle (k + 1) (by omega)
    rw [p1] at hb1
    rw [p1]
    unfold leastI at hb1 ⊢
    split at hb1
    · rename_i h
      rw [if_pos h]
    · omega
  refine ⟨hlen, h0, fun i hi => ?_, hsum⟩
  refine ⟨?_, (hle i hi).2⟩
  have hpos : ∀ n i, i ≤ n → i < s.length + 1 → 1 ≤ (ev s).getD i 0 := by
    intro n
    induction n with
    | zero => intro i hi _; rw [show i = 0 by omega, h0]; omega
    | succ n ih =>
      intro i hi hl
      rcases Nat.eq_zero_or_pos i with h | h
      · rw [h, h0]; omega
      · obtain ⟨a, b, h1, h2, h3⟩ := hsum (i - 1) (by omega)
        rw [show i - 1 + 1 = i by omega] at h3 h2
        have ha := ih a (by omega) (by omega)
        have hb := ih b (by omega) (by omega)
        omega
  exact hpos i i (Nat.le_refl _) hi

theorem mem_putI_iff (l : List Int) (x y : Int) : y ∈ putI l x ↔ y = x ∨ y ∈ l := by
  unfold putI
  split
  · rename_i h
    constructor
    · exact .inr
    · rintro (rfl | h') <;> assumption
  · unfold insA
    rw [List.mem_append, List.mem_cons]
    constructor
    · rintro (h | h | h)
      · exact .inr (List.mem_of_mem_take h)
      · exact .inl h
      · exact .inr (List.mem_of_mem_drop h)
    · rintro (h | h)
      · exact .inr (.inl h)
      · rw [← List.take_append_drop (cnt l x) l] at h
        rcases List.mem_append.1 h with h | h
        · exact .inl h
        · exact .inr (.inr h)
theorem uni0_ok (b : List Int) : ∀ k, k ≤ b.length → Asc (uniK [] b k) ∧ (uniK [] b k).length ≤ k ∧ ∀ y, y ∈ uniK [] b k ↔ y ∈ b.take k := by
  intro k
  induction k with
  | zero =>
    intro _
    rw [uniK_zero]
    exact ⟨fun i j _ h => absurd h (by simp), by simp, fun y => by simp⟩
  | succ k ih =>
    intro hk
    obtain ⟨h1, h2, h3⟩ := ih (by omega)
    rw [uniK_succ (by omega)]
    refine ⟨putI_asc h1 _, by have := putI_le (uniK [] b k) (b.getD k 0); omega, fun y => ?_⟩
    rw [mem_putI_iff, h3, take_succ_getD (by omega), List.mem_append, List.mem_singleton]
    constructor
    · rintro (h | h)
      · exact .inr h
      · exact .inl h
    · rintro (h | h)
      · exact .inr h
      · exact .inl h
theorem prs_intro {l : List Int} {k i j : Nat} (hij : i ≤ j) (hj : j < k) (h : l.getD i 0 + l.getD j 0 = l.getD k 0) : prs l k k ≠ [] := by
  intro he
  have hm : ((i : Int), (j : Int)) ∈ prs l k k := by
    unfold prs
    refine List.mem_flatMap.2 ⟨j, List.mem_range.2 hj, ?_⟩
    unfold prsJ prsI
    exact List.mem_map.2 ⟨i, List.mem_filter.2 ⟨List.mem_range.2 (by omega), by simpa using h⟩, rfl⟩
  rw [he] at hm
  simp at hm
theorem getD_of_mem {l : List Int} {x : Int} (h : x ∈ l) : ∃ i, i < l.length ∧ l.getD i 0 = x := by
  obtain ⟨i, hi, rfl⟩ := List.mem_iff_getElem.1 h
  exact ⟨i, hi, by simp [hi]⟩
theorem asc_idx {l : List Int} (ha : Asc l) {i k : Nat} (hi : i < l.length) (_hk : k < l.length) (h : l.getD i 0 < l.getD k 0) : i < k := by
  rcases Nat.lt_or_ge i k with h' | h'
  · exact h'
  · have := asc_le ha h' hi
    omega
theorem chain_of_ev {s : List (Int × Int)} (hok : OkS 1 s) (hb : expsB (exps 1 s) = true) (hs : s.length ≤ 40) : chG (uni [] (ev s)) = true := by
  obtain ⟨h1, h2, h3, h4⟩ := ev_sums hok hb
  obtain ⟨ha, hl, hm⟩ := uni0_ok (ev s) (ev s).length (Nat.le_refl _)
  rw [uniK_end] at ha hl hm
  rw [List.take_length] at hm
  obtain ⟨L, hL⟩ : ∃ L, uni [] (ev s) = L := ⟨_, rfl⟩
  rw [hL] at ha hl hm ⊢
  have hr : ∀ i, i < L.length → 1 ≤ L.getD i 0 ∧ L.getD i 0 ≤ 1000000 := fun i hi => by
    obtain ⟨j, hj, e⟩ := getD_of_mem ((hm _).1 (mem_getD hi))
    rw [← e]
    exact h3 j (by omega)
  have hone : (1 : Int) ∈ L := (hm 1).2 (by rw [← h2]; exact mem_getD (by omega))
  obtain ⟨i1, hi1, e1⟩ := getD_of_mem hone
  have hpos : 1 ≤ L.length := by omega
  have hz : L.getD 0 0 = 1 := by
    have := (hr 0 (by omega)).1
    have := asc_le ha (i := 0) (j := i1) (by omega) hi1
    omega
  have hch : Chn L := ⟨hpos, by omega, hz, hr, ha⟩
  unfold chG
  rw [chn_chB hch, Bool.true_and]
  unfold sumsB
  rw [List.all_eq_true]
  intro k hk
  have hkl := List.mem_range.1 hk
  rcases Nat.eq_zero_or_pos k with h | h
  · simp [h]
  · have hne : prs L k k ≠ [] := by
      obtain ⟨j, hj, e⟩ := getD_of_mem ((hm _).1 (mem_getD hkl))
      have hj0 : j ≠ 0 := fun hj0 => by
        rw [hj0, h2] at e
        have := ha 0 k h hkl
        omega
      obtain ⟨a, b, hab, hbk, hsum⟩ := h4 (j - 1) (by omega)
      rw [show j - 1 + 1 = j by omega] at hsum hbk
      obtain ⟨ia, hia, ea⟩ := getD_of_mem ((hm _).2 (mem_getD (l := ev s) (t := a) (by omega)))
      obtain ⟨ib, hib, eb⟩ := getD_of_mem ((hm _).2 (mem_getD (l := ev s) (t := b) (by omega)))
      have pa := (h3 a (by omega)).1
      have pb := (h3 b (by omega)).1
      have ka := asc_idx ha hia hkl (by omega)
      have kb := asc_idx ha hib hkl (by omega)
      rcases Nat.le_total ia ib with h' | h'
      · exact prs_intro h' kb (by omega)
      · exact prs_intro h' ka (by omega)
    simp [isEmpty_ne hne]
end Go.Proofs.Ytbbjgcagkmlngaa
/- Values that are used later, as data: by a list that is kept rising, and by looking at each value's uses. -/
namespace Go.Proofs.Ytbbjgcagkmlngaa
open Go.RowKit

theorem asc_pw {l : List Int} : Asc l ↔ l.Pairwise (· < ·) := by
  rw [List.pairwise_iff_getElem]
  unfold Asc
  constructor
  · intro h i j hi hj hij
    have := h i j hij hj
    simpa [hi, hj] using this
  · intro h i j hij hj
    have := h i j (by omega) hj hij
    simp only [List.getD_eq_getElem?_getD, List.getElem?_eq_getElem hj, List.getElem?_eq_getElem (show i < l.length by omega), Option.getD_some]
    exact this
theorem asc_same {a b : List Int} (ha : Asc a) (hb : Asc b) (h : ∀ x, x ∈ a ↔ x ∈ b) : a = b := by
  rw [asc_pw] at ha hb
  induction a generalizing b with
  | nil =>
    cases b with
    | nil => rfl
    | cons y b => have := (h y).2 List.mem_cons_self; simp at this
  | cons x a ih =>
    cases b with
    | nil => have := (h x).1 List.mem_cons_self; simp at this
    | cons y b =>
      obtain ⟨a1, a2⟩ := List.pairwise_cons.1 ha
      obtain ⟨b1, b2⟩ := List.pairwise_cons.1 hb
      have e : x = y := by
        rcases List.mem_cons.1 ((h x).1 List.mem_cons_self) with h1 | h1
        · exact h1
        · rcases List.mem_cons.1 ((h y).2 List.mem_cons_self) with h2 | h2
          · exact h2.symm
          · have := a1 y h2; have := b1 x h1; omega
      subst e
      rw [ih a2 b2 fun z => ?_]
      have hz := h z
      rw [List.mem_cons, List.mem_cons] at hz
      constructor
      · intro hm
        rcases hz.1 (.inr hm) with rfl | h1
        · have := a1 z hm; omega
        · exact h1
      · intro hm
        rcases hz.2 (.inr hm) with rfl | h1
        · have := b1 z hm; omega
        · exact h1

/-- There is a use behind the first k steps. -/
def lvB (s : List (Int × Int)) (o : List Int) (k : Nat) (v : Int) : Bool := decide (0 < (usO o v o.length).length) || (usS s v s.length).any fun i => decide ((k : Int) ≤ i)
def livK (s : List (Int × Int)) (o : List Int) (k m : Nat) : List Int := ((List.range m).filter fun v : Nat => lvB s o k (v : Int)).map fun v : Nat => (v : Int)
def liv (N : Nat) (s : List (Int × Int)) (o : List Int) (k : Nat) : List Int := livK s o k (N + k)
theorem livK_le (s : List (Int × Int)) (o : List Int) (k m : Nat) : (livK s o k m).length ≤ m := by
  unfold livK
  rw [List.length_map]
  exact Nat.le_trans (List.length_filter_le _ _) (by simp)
theorem livK_hit {s : List (Int × Int)} {o : List Int} {k m : Nat} (h : lvB s o k (m : Int) = true) : livK s o k (m + 1) = livK s o k m ++ [(m : Int)] := by
  unfold livK
  rw [List.range_succ, List.filter_append, List.map_append]
  simp [h]
theorem livK_miss {s : List (Int × Int)} {o : List Int} {k m : Nat} (h : lvB s o k (m : Int) = false) : livK s o k (m + 1) = livK s o k m := by
  unfold livK
  rw [List.range_succ, List.filter_append, List.map_append]
  simp [h]
theorem livK_asc (s : List (Int × Int)) (o : List Int) (k m : Nat) : Asc (livK s o k m) := by
  rw [asc_pw]
  unfold livK
  rw [List.pairwise_map]
  refine (List.Pairwise.filter _ List.pairwise_lt_range).imp fun h => ?_
  omega
theorem mem_livK {s : List (Int × Int)} {o : List Int} {k m : Nat} {x : Int} : x ∈ livK s o k m ↔ ∃ v : Nat, v < m ∧ x = (v : Int) ∧ lvB s o k (v : Int) = true := by
  unfold livK
  rw [List.mem_map]
  constructor
  · rintro ⟨v, hv, rfl⟩
    obtain ⟨h1, h2⟩ := List.mem_filter.1 hv
    exact ⟨v, List.mem_range.1 h1, rfl, h2⟩
  · rintro ⟨v, h1, rfl, h2⟩
    exact ⟨v, List.mem_filter.2 ⟨List.mem_range.2 h1, h2⟩, rfl⟩
theorem lvB_iff {s : List (Int × Int)} {o : List Int} {k : Nat} {v : Int} : lvB s o k v = true ↔ ((∃ i : Nat, k ≤ i ∧ i < s.length ∧ ((s.getD i (0, 0)).1 = v ∨ (s.getD i (0, 0)).2 = v)) ∨ v ∈ o) := by
  unfold lvB
  rw [Bool.or_eq_true, decide_eq_true_eq, List.any_eq_true]
  constructor
  · rintro (h | ⟨x, h1, h2⟩)
    · right
      obtain ⟨x, hx⟩ := List.exists_mem_of_length_pos h
      obtain ⟨i, h1, _, h3⟩ := mem_usO.1 hx
      rw [← h3]
      simp only [List.getD_eq_getElem?_getD, List.getElem?_eq_getElem h1, Option.getD_some]
      exact List.getElem_mem h1
    · left
      obtain ⟨i, h3, h4, h5⟩ := mem_usS.1 h1
      have := of_decide_eq_true h2
      exact ⟨i, by omega, h3, h5⟩
  · rintro (⟨i, h1, h2, h3⟩ | h)
    · right
      exact ⟨(i : Int), mem_usS.2 ⟨i, h2, rfl, h3⟩, by simp; omega⟩
    · left
      obtain ⟨i, h1, h2⟩ := List.mem_iff_getElem.1 h
      have : ((i : Nat) : Int) ∈ usO o v o.length := mem_usO.2 ⟨i, h1, rfl, by simp [h1, h2]⟩
      exact List.length_pos_of_mem this

/-- The model's list: sides of the later steps, kept rising. -/
def lvS (s : List (Int × Int)) (k : Nat) : Nat → List Int
  | 0 => []
  | j + 1 => putI (putI (lvS s k j) (s.getD (k + j) (0, 0)).1) (s.getD (k + j) (0, 0)).2
def lvO (s : List (Int × Int)) (o : List Int) (k i : Nat) : List Int := uniK (lvS s k (s.length - k)) o i
def flK (l : List Int) (m : Int) (i : Nat) : List Int := (l.take i).filter fun v => decide (v < m)
theorem lvS_asc (s : List (Int × Int)) (k : Nat) : ∀ j, Asc (lvS s k j) ∧ (lvS s k j).length ≤ 2 * j := by
  intro j
  induction j with
  | zero => exact ⟨fun i j _ h => by simp [lvS] at h, by simp [lvS]⟩
  | succ j ih =>
    have h1 := putI_le (lvS s k j) (s.getD (k + j) (0, 0)).1
    have h2 := putI_le (putI (lvS s k j) (s.getD (k + j) (0, 0)).1) (s.getD (k + j) (0, 0)).2
    exact ⟨putI_asc (putI_asc ih.1 _) _, by simp only [lvS]; omega⟩
theorem mem_lvS {s : List (Int × Int)} {k : Nat} {x : Int} : ∀ j, x ∈ lvS s k j ↔ ∃ i : Nat, k ≤ i ∧ i < k + j ∧ ((s.getD i (0, 0)).1 = x ∨ (s.getD i (0, 0)).2 = x) := by
  intro j
  induction j with
  | zero => simp [lvS]; intro i h1 h2; omega
  | succ j ih =>
    simp only [lvS]
    rw [mem_putI_iff, mem_putI_iff, ih]
    constructor
    · rintro (h | h | ⟨i, h1, h2, h3⟩)
      · exact ⟨k + j, by omega, by omega, .inr h.symm⟩
      · exact ⟨k + j, by omega, by omega, .inl h.symm⟩
      · exact ⟨i, h1, by omega, h3⟩
    · rintro ⟨i, h1, h2, h3⟩
      rcases Nat.lt_or_ge i (k + j) with h4 | h4
      · exact .inr (.inr ⟨i, h1, h4, h3⟩)
      · have e : i = k + j := by omega
        subst e
        rcases h3 with h3 | h3
        · exact .inr (.inl h3.symm)
        · exact .inl h3.symm
theorem lvO_succ {s : List (Int × Int)} {o : List Int} {k i : Nat} (hi : i < o.length) : lvO s o k (i + 1) = putI (lvO s o k i) (o.getD i 0) := uniK_succ hi
theorem lvO_ok (s : List (Int × Int)) (o : List Int) (k : Nat) : ∀ i, i ≤ o.length → Asc (lvO s o k i) ∧ (lvO s o k i).length ≤ 2 * (s.length - k) + i ∧ ∀ x, x ∈ lvO s o k i ↔ (x ∈ lvS s k (s.length - k) ∨ x ∈ o.take i) := by
  intro i
  induction i with
  | zero =>
    intro _
    unfold lvO
    rw [uniK_zero]
    exact ⟨(lvS_asc s k _).1, by have := (lvS_asc s k (s.length - k)).2; omega, fun x => by simp⟩
  | succ i ih =>
    intro hi
    obtain ⟨h1, h2, h3⟩ := ih (by omega)
    rw [lvO_succ (by omega)]
    refine ⟨putI_asc h1 _, by have := putI_le (lvO s o k i) (o.getD i 0); omega, fun x => ?_⟩
    rw [mem_putI_iff, h3, take_succ_getD (by omega), List.mem_append, List.mem_singleton]
    constructor
    · rintro (h | h | h)
      · exact .inr (.inr h)
      · exact .inl h
      · exact .inr (.inl h)
    · rintro (h | h | h)
      · exact .inr (.inl h)
      · exact .inr (.inr h)
      · exact .inl h
theorem flK_hit {l : List Int} {m : Int} {i : Nat} (hi : i < l.length) (h : l.getD i 0 < m) : flK l m (i + 1) = flK l m i ++ [l.getD i 0] := by
  unfold flK
  rw [take_succ_getD hi, List.filter_append]
  simp only [List.filter_cons, decide_eq_true h, if_true, List.filter_nil]
theorem flK_miss {l : List Int} {m : Int} {i : Nat} (hi : i < l.length) (h : ¬ l.getD i 0 < m) : flK l m (i + 1) = flK l m i := by
  unfold flK
  rw [take_succ_getD hi, List.filter_append]
  simp only [List.filter_cons, decide_eq_false h, List.filter_nil]
  simp
theorem flK_le (l : List Int) (m : Int) (i : Nat) : (flK l m i).length ≤ l.length := by
  unfold flK
  exact Nat.le_trans (List.length_filter_le _ _) (by simp; omega)
/-- Both are the same. -/
theorem liv_eq {N : Nat} {s : List (Int × Int)} {o : List Int} {k : Nat} (hs : OkS N s) (ho : ∀ x ∈ o, 0 ≤ x) (hk : k ≤ s.length) :
    flK (lvO s o k o.length) ((N : Int) + k) (lvO s o k o.length).length = liv N s o k := by
  obtain ⟨h1, _, h3⟩ := lvO_ok s o k o.length (Nat.le_refl _)
  unfold flK liv
  rw [List.take_length]
  rw [List.take_length] at h3
  refine asc_same ?_ (livK_asc s o k _) fun x => ?_
  · rw [asc_pw] at h1 ⊢
    exact h1.filter _
  · rw [List.mem_filter, h3, mem_livK, mem_lvS]
    have e : k + (s.length - k) = s.length := by omega
    rw [e]
    constructor
    · rintro ⟨h4, h5⟩
      have h6 : x < (N : Int) + k := of_decide_eq_true h5
      have h0 : 0 ≤ x := by
        rcases h4 with ⟨i, _, h7, h8⟩ | h4
        · obtain ⟨q1, q2, _⟩ := hs i h7
          have e2 : s.getD i (0, 0) = s[i] := by simp [h7]
          rw [e2] at h8
          rcases h8 with h8 | h8 <;> omega
        · exact ho x h4
      refine ⟨x.toNat, by omega, by omega, ?_⟩
      rw [show ((x.toNat : Nat) : Int) = x by omega, lvB_iff]
      exact h4
    · rintro ⟨v, h4, rfl, h5⟩
      rw [lvB_iff] at h5
      exact ⟨h5, by simp; omega⟩
end Go.Proofs.Ytbbjgcagkmlngaa
/- Values that are needed, where it is told of each value whether it is there; by the program and by the model, as data. -/
namespace Go.Proofs.Ytbbjgcagkmlngaa
open Go.RowKit

/-- A value is needed by an output, or by a step whose value is not there. -/
def lgB (N : Nat) (s : List (Int × Int)) (o : List Int) (f : Nat → Bool) (v : Int) : Bool := decide (0 < (usO o v o.length).length) || (usS s v s.length).any fun i => !f (N + i.toNat)
/-- The first m values that are there and needed. -/
def lgK (N : Nat) (s : List (Int × Int)) (o : List Int) (f : Nat → Bool) (m : Nat) : List Int := ((List.range m).filter fun v : Nat => f v && lgB N s o f (v : Int)).map fun v : Nat => (v : Int)
def lg (N : Nat) (s : List (Int × Int)) (o : List Int) (f : Nat → Bool) : List Int := lgK N s o f (N + s.length)
theorem lgK_le (N : Nat) (s : List (Int × Int)) (o : List Int) (f : Nat → Bool) (m : Nat) : (lgK N s o f m).length ≤ m := by
  unfold lgK
  rw [List.length_map]
  exact Nat.le_trans (List.length_filter_le _ _) (by simp)
theorem lgK_hit {N : Nat} {s : List (Int × Int)} {o : List Int} {f : Nat → Bool} {m : Nat} (h : (f m && lgB N s o f (m : Int)) = true) : lgK N s o f (m + 1) = lgK N s o f m ++ [(m : Int)] := by
  unfold lgK
  rw [List.range_succ, List.filter_append, List.map_append]
  simp [h]
theorem lgK_miss {N : Nat} {s : List (Int × Int)} {o : List Int} {f : Nat → Bool} {m : Nat} (h : (f m && lgB N s o f (m : Int)) = false) : lgK N s o f (m + 1) = lgK N s o f m := by
  unfold lgK
  rw [List.range_succ, List.filter_append, List.map_append]
  simp [h]
theorem filter_below {p : Nat → Bool} {b : Nat} : ∀ a, b ≤ a → (List.range a).filter (fun v => decide (v < b) && p v) = (List.range b).filter p := by
  intro a h
  obtain ⟨d, rfl⟩ : ∃ d, a = b + d := ⟨a - b, by omega⟩
  induction d with
  | zero =>
    refine List.filter_congr fun x hx => ?_
    have := List.mem_range.1 hx
    simp [decide_eq_true (show x < b from this)]
  | succ d ih =>
    rw [show b + (d + 1) = (b + d) + 1 by omega, List.range_succ, List.filter_append, ih (by omega)]
    simp
    intro h2
    omega
theorem lgB_upto {N : Nat} {s : List (Int × Int)} {o : List Int} {k : Nat} (v : Int) : lgB N s o (fun x => decide (x < N + k)) v = lvB s o k v := by
  unfold lgB lvB
  congr 1
  rw [Bool.eq_iff_iff, List.any_eq_true, List.any_eq_true]
  constructor
  · rintro ⟨i, h1, h2⟩
    obtain ⟨j, h3, rfl, _⟩ := mem_usS.1 h1
    refine ⟨_, h1, ?_⟩
    simp at h2 ⊢
    omega
  · rintro ⟨i, h1, h2⟩
    obtain ⟨j, h3, rfl, _⟩ := mem_usS.1 h1
    refine ⟨_, h1, ?_⟩
    simp at h2 ⊢
    omega
/-- Of the first k steps. -/
theorem lg_upto {N : Nat} {s : List (Int × Int)} {o : List Int} {k : Nat} (hk : k ≤ s.length) : lg N s o (fun x => decide (x < N + k)) = liv N s o k := by
  unfold lg liv lgK livK
  rw [filter_below (p := fun v : Nat => lgB N s o (fun x => decide (x < N + k)) (v : Int)) (N + s.length) (by omega)]
  congr 1
  refine List.filter_congr fun x _ => ?_
  exact lgB_upto _
theorem lgB_iff {N : Nat} {s : List (Int × Int)} {o : List Int} {f : Nat → Bool} {v : Int} : lgB N s o f v = true ↔ ((∃ i : Nat, f (N + i) = false ∧ i < s.length ∧ ((s.getD i (0, 0)).1 = v ∨ (s.getD i (0, 0)).2 = v)) ∨ v ∈ o) := by
  unfold lgB
  rw [Bool.or_eq_true, decide_eq_true_eq, List.any_eq_true]
  constructor
  · rintro (h | ⟨x, h1, h2⟩)
    · right
      obtain ⟨x, hx⟩ := List.exists_mem_of_length_pos h
      obtain ⟨i, h1, _, h3⟩ := mem_usO.1 hx
      rw [← h3]
      simp only [List.getD_eq_getElem?_getD, List.getElem?_eq_getElem h1, Option.getD_some]
      exact List.getElem_mem h1
    · left
      obtain ⟨i, h3, rfl, h5⟩ := mem_usS.1 h1
      exact ⟨i, by simpa using h2, h3, h5⟩
  · rintro (⟨i, h1, h2, h3⟩ | h)
    · right
      exact ⟨(i : Int), mem_usS.2 ⟨i, h2, rfl, h3⟩, by simpa using h1⟩
    · left
      obtain ⟨i, h1, h2⟩ := List.mem_iff_getElem.1 h
      have : ((i : Nat) : Int) ∈ usO o v o.length := mem_usO.2 ⟨i, h1, rfl, by simp [h1, h2]⟩
      exact List.length_pos_of_mem this

/-- The model's test of a value: an output, or a factor of one of the first j steps that has not been done. -/
def neB (s : List (Int × Int)) (o done : List Int) (v : Int) : Nat → Bool
  | 0 => hasI o v
  | j + 1 => neB s o done v j || (!hasI done (j : Int) && ((s.getD j (0, 0)).1 == v || (s.getD j (0, 0)).2 == v))
/-- Whether a value has been made. -/
def hereB (N : Nat) (done : List Int) (v : Nat) : Bool := decide (v < N) || hasI done ((v : Int) - N)
def neK (N : Nat) (s : List (Int × Int)) (o done : List Int) (m : Nat) : List Int := ((List.range m).filter fun v : Nat => hereB N done v && neB s o done (v : Int) s.length).map fun v : Nat => (v : Int)
theorem neK_le (N : Nat) (s : List (Int × Int)) (o done : List Int) (m : Nat) : (neK N s o done m).length ≤ m := by
  unfold neK
  rw [List.length_map]
  exact Nat.le_trans (List.length_filter_le _ _) (by simp)
theorem neK_hit {N : Nat} {s : List (Int × Int)} {o done : List Int} {m : Nat} (h : (hereB N done m && neB s o done (m : Int) s.length) = true) : neK N s o done (m + 1) = neK N s o done m ++ [(m : Int)] := by
  unfold neK
  rw [List.range_succ, List.filter_append, List.map_append]
  simp [h]
theorem neK_miss {N : Nat} {s : List (Int × Int)} {o done : List Int} {m : Nat} (h : (hereB N done m && neB s o done (m : Int) s.length) = false) : neK N s o done (m + 1) = neK N s o done m := by
  unfold neK
  rw [List.range_succ, List.filter_append, List.map_append]
  simp [h]
theorem neB_iff {s : List (Int × Int)} {o done : List Int} {v : Int} : ∀ j, neB s o done v j = true ↔ ((∃ i : Nat, i < j ∧ hasI done (i : Int) = false ∧ ((s.getD i (0, 0)).1 = v ∨ (s.getD i (0, 0)).2 = v)) ∨ v ∈ o) := by
  intro j
  induction j with
  | zero => simp [neB, hasI]
  | succ j ih =>
    simp only [neB, Bool.or_eq_true, ih, Bool.and_eq_true, Bool.not_eq_true', beq_iff_eq]
    constructor
    · rintro ((⟨i, h1, h2, h3⟩ | h) | ⟨h1, h2⟩)
      · exact .inl ⟨i, by omega, h2, h3⟩
      · exact .inr h
      · exact .inl ⟨j, by omega, h1, h2⟩
    · rintro (⟨i, h1, h2, h3⟩ | h)
      · rcases Nat.lt_or_ge i j with h4 | h4
        · exact .inl (.inl ⟨i, h4, h2, h3⟩)
        · have : i = j := by omega
          subst this
          exact .inr ⟨h2, h3⟩
      · exact .inl (.inr h)
/-- Both are the same, where what is there is told alike. -/
theorem ne_lg {N : Nat} {s : List (Int × Int)} {o done : List Int} {f : Nat → Bool} (h : ∀ v, v < N + s.length → f v = hereB N done v) : neK N s o done (N + s.length) = lg N s o f := by
  unfold neK lg lgK
  congr 1
  refine List.filter_congr fun x hx => ?_
  have hx := List.mem_range.1 hx
  rw [h x hx]
  congr 1
  rw [Bool.eq_iff_iff, neB_iff, lgB_iff]
  have hi : ∀ i : Nat, i < s.length → (f (N + i) = hasI done (i : Int)) := fun i hi => by
    rw [h _ (by omega)]
    unfold hereB
    rw [decide_eq_false (by omega), Bool.false_or]
    congr 1
    omega
  constructor
  · rintro (⟨i, h1, h2, h3⟩ | h1)
    · exact .inl ⟨i, by rw [hi i h1]; exact h2, h1, h3⟩
    · exact .inr h1
  · rintro (⟨i, h1, h2, h3⟩ | h1)
    · exact .inl ⟨i, h2, by rw [← hi i h2]; exact h1, h3⟩
    · exact .inr h1
theorem has_ups {k : Nat} {x : Int} : hasI (ups k) x = (decide (0 ≤ x) && decide (x < k)) := by
  unfold hasI
  rw [Bool.eq_iff_iff, List.contains_iff_mem]
  unfold ups
  rw [List.mem_map]
  simp only [List.mem_range, Bool.and_eq_true, decide_eq_true_eq]
  constructor
  · rintro ⟨a, h1, rfl⟩; omega
  · intro h; exact ⟨x.toNat, by omega, by omega⟩
theorem ne_liv {N : Nat} {s : List (Int × Int)} {o : List Int} {k : Nat} (hk : k ≤ s.length) : neK N s o (ups k) (N + s.length) = liv N s o k := by
  rw [← lg_upto hk]
  refine ne_lg fun v _ => ?_
  unfold hereB
  rw [has_ups, Bool.eq_iff_iff]
  simp only [Bool.or_eq_true, Bool.and_eq_true, decide_eq_true_eq]
  omega
end Go.Proofs.Ytbbjgcagkmlngaa
/- Values that are needed after some steps, by the model. -/
namespace Go.Proofs.Ytbbjgcagkmlngaa
open Go.RowKit

theorem neB_succ {s : List (Int × Int)} {o done : List Int} {v : Int} {j : Nat} (hj : j < s.length) : neB s o done v (j + 1) = (neB s o done v j || (!hasI done (j : Int) && ((s[j]).1 == v || (s[j]).2 == v))) := by
  simp only [neB]
  rw [show s.getD j (0, 0) = s[j] by simp [hj]]
theorem box2w {w w1 : World} {a b : Value} {t : TypeId} (h : w.alloc (.cells #[a, b] t) = w1) :
    (w1.cell? ⟨w.heap.size, 0, none⟩ = some a ∧ w1.cell? ⟨w.heap.size, 1, none⟩ = some b) ∧ w1.heap.size = w.heap.size + 1 ∧ Below w.heap.size w w1 :=
  let ⟨h0, h1, hs, hb⟩ := box2 h
  ⟨⟨h0, h1⟩, hs, hb⟩
theorem box3w {w w1 : World} {a b c : Value} {t : TypeId} (h : w.alloc (.cells #[a, b, c] t) = w1) :
    (w1.cell? ⟨w.heap.size, 0, none⟩ = some a ∧ w1.cell? ⟨w.heap.size, 1, none⟩ = some b ∧ w1.cell? ⟨w.heap.size, 2, none⟩ = some c) ∧ w1.heap.size = w.heap.size + 1 ∧ Below w.heap.size w w1 :=
  let ⟨h0, h1, h2, hs, hb⟩ := box3 h
  ⟨⟨h0, h1, h2⟩, hs, hb⟩

set_option maxRecDepth 100000 in
set_option maxHeartbeats 8000000 in
theorem reNeeded_any (B N : Nat) (A1 A2 : Option Addr) (c1 c2 : Nat) (p : Pl) (AD : Option Addr) (cd : Nat) (done : List Int) (w : World) (hpn : p.n = N) (h6 : N ≤ 6) (hs40 : p.s.length ≤ 40) (ho6 : p.o.length ≤ 6) (hd : done.length ≤ 1000) (hB : B ≤ w.heap.size) (hr : RdP w B A1 A2 p) (hrd : Rd w B 1 AD done.length (done.map I)) :
    Calls Try.prog 76 #[.agg #[.int .i64 p.n, .slice A1 p.s.length c1, .slice A2 p.o.length c2], .slice AD done.length cd] w fun e w' =>
      ∃ A c, e = .returned (.slice A (neK N p.s p.o done (N + p.s.length)).length c) ∧ OwI w' w.heap.size (.slice A (neK N p.s p.o done (N + p.s.length)).length c) (neK N p.s p.o done (N + p.s.length)) ∧ Below w.heap.size w w' := by
  have H := Lib.hid hr
  have HD := Lib.hid hrd
  clear hr hrd
  rw [hpn]
  clear hpn
  have hwR : IntKind.i64.wrap ((N : Int) + (p.s.length : Int)) = ((N + p.s.length : Nat) : Int) := by rw [IntWalk.i64_in _ (by omega)]; omega
  obtain ⟨R, hR⟩ : ∃ R, N + p.s.length = R := ⟨_, rfl⟩
  have HR := Lib.hid hR
  rw [hR] at hwR ⊢
  have hR46 : R ≤ 46 := by omega
  have hNR : N ≤ R := by omega
  clear hR
  go_enter Try.func76, Try.ntmps76
  go_wp2
  generalize hw1 : World.alloc w _ = w1
  obtain ⟨⟨x0, x1, x2⟩, xs, xb⟩ := box3w hw1
  clear hw1
  have XB := Lib.hid xb
  clear xb
  go_loopw [5, 6] (fun ov iv wr => ∃ (v : Nat) (A4 : Option Addr) (c4 : Nat), v ≤ R ∧ iv = .int .i64 v ∧ ov = .slice A4 (neK N p.s p.o done v).length c4 ∧ wr.ownsRow w1.heap.size 3 1 (.slice A4 (neK N p.s p.o done v).length c4) (neK N p.s p.o done v).length ((neK N p.s p.o done v).map I) ∧ Below w1.heap.size w1 wr) (fun _ i _ => R - (intOf i).toNat)
  case atStart => exact ⟨0, none, 0, by omega, rfl, rfl, by simpa [neK] using World.ownsRow_nil _ _ _ _, Below.refl _ _⟩
  case round =>
    obtain ⟨v, A4, c4, hv, rfl, rfl, hown, hbel⟩ := hrel
    have hsz := hbel.size
    have hle := neK_le N p.s p.o done v
    have z0 := (hbel.cell (p := ⟨w.heap.size, 0, none⟩) (by simp only []; omega)).trans x0
    have z1 := (hbel.cell (p := ⟨w.heap.size, 1, none⟩) (by simp only []; omega)).trans x1
    have z2 := (hbel.cell (p := ⟨w.heap.size, 2, none⟩) (by simp only []; omega)).trans x2
    have HBW := Lib.hid (XB.out.trans (hbel.mono (by omega)))
    have OWN := Lib.hid hown
    have BEL := Lib.hid hbel
    clear hown hbel
    by_cases hlt : v < R
    · have ivR : (v : Int) < (R : Int) := by omega
      obtain ⟨hb, hhb⟩ : ∃ t, hereB N done v = t := ⟨_, rfl⟩
      have HHB := Lib.hid hhb
      have hwv : IntKind.i64.wrap ((v : Int) - (N : Int)) = (v : Int) - (N : Int) := IntWalk.i64_in _ (by omega)
      have LH := Lib.hid (l1Has_any B AD cd done ((v : Int) - N) wr (by omega) (HD.out.below' HBW.out hB))
      cases hb with
      | false =>
        have hvN : ¬ v < N := by
          intro h
          unfold hereB at hhb
          rw [decide_eq_true h] at hhb
          cases hhb
        have hhd : hasI done ((v : Int) - N) = false := by
          unfold hereB at hhb
          rw [decide_eq_false hvN, Bool.false_or] at hhb
          exact hhb
        have ivN : (N : Int) ≤ (v : Int) := by omega
        have lh := LH.out
        rw [hhd] at lh
        have LH := Lib.hid lh
        have MISS := Lib.hid (neK_miss (N := N) (s := p.s) (o := p.o) (done := done) (m := v) (by rw [HHB.out]; rfl))
        clear hhb hvN hhd lh
        go_wp2_with fail
        go_at_call 84
        refine LH.out.mono ?_
        rintro e w3 ⟨rfl, rfl⟩
        go_wp2
        go_roundw
        case rel => exact ⟨v + 1, A4, c4, by omega, by go_num, by rw [MISS.out], by rw [MISS.out]; exact OWN.out, BEL.out⟩
        case measure => simp [intOf]; omega
      | true =>
        have LO := Lib.hid (l1Has_any B A2 c2 p.o (v : Int) wr (by omega) (H.out.below' HBW.out hB).2)
        by_cases hvN : v < N
        · have ivN : ¬ (N : Int) ≤ (v : Int) := by omega
          clear hhb hvN
          go_wp2_with fail
          go_at_call 84
          refine LO.out.mono ?_
          rintro e w3 ⟨rfl, rfl⟩
          obtain ⟨w2, hw2⟩ : ∃ x, wr = x := ⟨_, rfl⟩
          rw [hw2] at hsz z0 z1 z2 HBW OWN BEL ⊢
          clear hw2 LO LH
          go_wp2
          go_loopw [7, 40] (fun nv jv wq => ∃ j : Nat, j ≤ p.s.length ∧ jv = .int .i64 j ∧ nv = .bool (neB p.s p.o done (v : Int) j) ∧ Below w2.heap.size w2 wq) (fun _ j _ => p.s.length - (intOf j).toNat)
          case atStart => exact ⟨0, by omega, rfl, rfl, Below.refl _ _⟩
          case round =>
            obtain ⟨j, hj, rfl, rfl, hbel⟩ := hrel
            have hsz2 := hbel.size
            have BL := Lib.hid hbel
            have HBW2 := Lib.hid (HBW.out.trans (hbel.mono HBW.out.size))
            by_cases hjl : j < p.s.length
            · have ijl : (j : Int) < (p.s.length : Int) := by omega
              obtain ⟨b, off, rfl, hbb, hc1, hc2⟩ := (H.out.below' HBW2.out hB).1.stp hjl
              have hsu := neB_succ (o := p.o) (done := done) (v := (v : Int)) hjl
              obtain ⟨⟨sa, sb⟩, hx⟩ : ∃ x, p.s[j] = x := ⟨_, rfl⟩
              rw [hx] at hc1 hc2 hsu
              simp only at hc1 hc2 hsu
              have LJ := l1Has_any B AD cd done (j : Int)
              obtain ⟨nb, hnb⟩ : ∃ t, neB p.s p.o done (v : Int) j = t := ⟨_, rfl⟩
              rw [hnb] at hsu ⊢
              obtain ⟨dj, hdj⟩ : ∃ t, hasI done (j : Int) = t := ⟨_, rfl⟩
              rw [hdj] at hsu LJ
              have LJ := Lib.hid LJ
              have SU := Lib.hid hsu
              clear hx hnb hdj hsu hbel
              cases nb with
              | true =>
                have E := Lib.hid (show neB p.s p.o done (v : Int) (j + 1) = true by rw [SU.out]; rfl)
                go_wp2
                go_roundw
                case rel => exact ⟨j + 1, by omega, by go_num, by rw [E.out], BL.out.alloc hsz2 _⟩
                case measure => simp [intOf]; omega
              | false =>
                go_wp2_with fail
                go_at_call 84
                generalize hw5 : World.alloc wr _ = w5
                obtain ⟨⟨e0, e1⟩, es, eb⟩ := box2w hw5
                clear hw5
                have BL5 := Lib.hid (BL.out.trans (eb.mono hsz2))
                refine (LJ.out w5 (by omega) ((HD.out.below' HBW2.out hB).below' eb (by have := HBW2.out.size; omega))).mono ?_
                rintro e w6 ⟨rfl, rfl⟩
                cases dj with
                | true =>
                  have E := Lib.hid (show neB p.s p.o done (v : Int) (j + 1) = false by rw [SU.out]; rfl)
                  go_wp2
                  go_roundw
                  case rel => exact ⟨j + 1, by omega, by go_num, by rw [E.out], BL5.out⟩
                  case measure => simp [intOf]; omega
                | false =>
                  by_cases ha : sa = (v : Int)
                  · have q1 : (sa == (v : Int)) = true := by simpa using ha
                    have E := Lib.hid (show neB p.s p.o done (v : Int) (j + 1) = true by rw [SU.out, q1]; rfl)
                    clear ha
                    go_wp2
                    go_roundw
                    case rel => exact ⟨j + 1, by omega, by go_num, by rw [E.out], BL5.out⟩
                    case measure => simp [intOf]; omega
                  · have q1 : (sa == (v : Int)) = false := by simpa using ha
                    obtain ⟨u, hu⟩ : ∃ u, (sb == (v : Int)) = u := ⟨_, rfl⟩
                    have E := Lib.hid (show neB p.s p.o done (v : Int) (j + 1) = u by rw [SU.out, q1, hu]; simp)
                    clear ha
                    go_wp2
                    go_roundw
                    case rel => exact ⟨j + 1, by omega, by go_num, by rw [E.out], BL5.out⟩
                    case measure => simp [intOf]; omega
            · have hj' : j = p.s.length := by omega
              have OWN2 := Lib.hid (own_below' OWN.out BL.out (Nat.le_refl _))
              have BEL2 := Lib.hid (BEL.out.trans (hbel.mono hsz))
              obtain ⟨nb, hnb⟩ : ∃ t, neB p.s p.o done (v : Int) j = t := ⟨_, rfl⟩
              rw [hnb]
              have HNB := Lib.hid (show neB p.s p.o done (v : Int) p.s.length = nb by rw [← hj']; exact hnb)
              have hs2 : w1.heap.size ≤ wr.heap.size := BEL2.out.size
              clear hbel hnb
              subst hj'
              cases nb with
              | true =>
                have HIT := Lib.hid (neK_hit (N := N) (s := p.s) (o := p.o) (done := done) (m := v) (by rw [HHB.out, HNB.out]; rfl))
                go_wp2_with (at_builtin; refine list_step (fun K hK => ?_); refine step_app1 Try.underlying22 info_int rfl (by omega) rfl (.tmp 66) (.tmp 68) rfl w1.heap.size (neK N p.s p.o done v).length _ _ rfl (World.ownsRow.alloc OWN2.out _) wr.heap.size 1 (I (v : Int)) rfl (by simp) rfl (by omega) (by simp; omega) ?_; intro A7 c7 w7 hown7 hg7 hbel7; go_simp; refine hK _ _ ?_; clear hK K)
                go_roundw
                case rel =>
                  have hl : (neK N p.s p.o done (v + 1)).length = (neK N p.s p.o done v).length + 1 := by rw [HIT.out]; simp
                  have hm : (neK N p.s p.o done (v + 1)).map I = (neK N p.s p.o done v).map I ++ [I (v : Int)] := by rw [HIT.out]; simp
                  exact ⟨v + 1, A7, c7, by omega, by go_num, by rw [hl], by rw [hl, hm]; exact hown7, (BEL2.out.alloc hs2 _).trans hbel7⟩
                case measure => simp [intOf]; omega
              | false =>
                have MISS := Lib.hid (neK_miss (N := N) (s := p.s) (o := p.o) (done := done) (m := v) (by rw [HHB.out, HNB.out]; rfl))
                go_wp2
                go_roundw
                case rel => exact ⟨v + 1, A4, c4, by omega, by go_num, by rw [MISS.out], by rw [MISS.out]; exact OWN2.out, BEL2.out⟩
                case measure => simp [intOf]; omega
        · have ivN : (N : Int) ≤ (v : Int) := by omega
          have hhd : hasI done ((v : Int) - N) = true := by
            unfold hereB at hhb
            rw [decide_eq_false hvN, Bool.false_or] at hhb
            exact hhb
          have lh := LH.out
          rw [hhd] at lh
          have LH := Lib.hid lh
          clear hhb hvN hhd lh
          go_wp2_with fail
          go_at_call 84
          refine LH.out.mono ?_
          rintro e w3 ⟨rfl, rfl⟩
          go_wp2_with fail
          go_at_call 84
          refine LO.out.mono ?_
          rintro e w3 ⟨rfl, rfl⟩
          obtain ⟨w2, hw2⟩ : ∃ x, wr = x := ⟨_, rfl⟩
          rw [hw2] at hsz z0 z1 z2 HBW OWN BEL ⊢
          clear hw2 LO LH
          go_wp2
          go_loopw [7, 40] (fun nv jv wq => ∃ j : Nat, j ≤ p.s.length ∧ jv = .int .i64 j ∧ nv = .bool (neB p.s p.o done (v : Int) j) ∧ Below w2.heap.size w2 wq) (fun _ j _ => p.s.length - (intOf j).toNat)
          case atStart => exact ⟨0, by omega, rfl, rfl, Below.refl _ _⟩
          case round =>
            obtain ⟨j, hj, rfl, rfl, hbel⟩ := hrel
            have hsz2 := hbel.size
            have BL := Lib.hid hbel
            have HBW2 := Lib.hid (HBW.out.trans (hbel.mono HBW.out.size))
            by_cases hjl : j < p.s.length
            · have ijl : (j : Int) < (p.s.length : Int) := by omega
              obtain ⟨b, off, rfl, hbb, hc1, hc2⟩ := (H.out.below' HBW2.out hB).1.stp hjl
              have hsu := neB_succ (o := p.o) (done := done) (v := (v : Int)) hjl
              obtain ⟨⟨sa, sb⟩, hx⟩ : ∃ x, p.s[j] = x := ⟨_, rfl⟩
              rw [hx] at hc1 hc2 hsu
              simp only at hc1 hc2 hsu
              have LJ := l1Has_any B AD cd done (j : Int)
              obtain ⟨nb, hnb⟩ : ∃ t, neB p.s p.o done (v : Int) j = t := ⟨_, rfl⟩
              rw [hnb] at hsu ⊢
              obtain ⟨dj, hdj⟩ : ∃ t, hasI done (j : Int) = t := ⟨_, rfl⟩
              rw [hdj] at hsu LJ
              have LJ := Lib.hid LJ
              have SU := Lib.hid hsu
              clear hx hnb hdj hsu hbel
              cases nb with
              | true =>
                have E := Lib.hid (show neB p.s p.o done (v : Int) (j + 1) = true by rw [SU.out]; rfl)
                go_wp2
                go_roundw
                case rel => exact ⟨j + 1, by omega, by go_num, by rw [E.out], BL.out.alloc hsz2 _⟩
                case measure => simp [intOf]; omega
              | false =>
                go_wp2_with fail
                go_at_call 84
                generalize hw5 : World.alloc wr _ = w5
                obtain ⟨⟨e0, e1⟩, es, eb⟩ := box2w hw5
                clear hw5
                have BL5 := Lib.hid (BL.out.trans (eb.mono hsz2))
                refine (LJ.out w5 (by omega) ((HD.out.below' HBW2.out hB).below' eb (by have := HBW2.out.size; omega))).mono ?_
                rintro e w6 ⟨rfl, rfl⟩
                cases dj with
                | true =>
                  have E := Lib.hid (show neB p.s p.o done (v : Int) (j + 1) = false by rw [SU.out]; rfl)
                  go_wp2
                  go_roundw
                  case rel => exact ⟨j + 1, by omega, by go_num, by rw [E.out], BL5.out⟩
                  case measure => simp [intOf]; omega
                | false =>
                  by_cases ha : sa = (v : Int)
                  · have q1 : (sa == (v : Int)) = true := by simpa using ha
                    have E := Lib.hid (show neB p.s p.o done (v : Int) (j + 1) = true by rw [SU.out, q1]; rfl)
                    clear ha
                    go_wp2
                    go_roundw
                    case rel => exact ⟨j + 1, by omega, by go_num, by rw [E.out], BL5.out⟩
                    case measure => simp [intOf]; omega
                  · have q1 : (sa == (v : Int)) = false := by simpa using ha
                    obtain ⟨u, hu⟩ : ∃ u, (sb == (v : Int)) = u := ⟨_, rfl⟩
                    have E := Lib.hid (show neB p.s p.o done (v : Int) (j + 1) = u by rw [SU.out, q1, hu]; simp)
                    clear ha
                    go_wp2
                    go_roundw
                    case rel => exact ⟨j + 1, by omega, by go_num, by rw [E.out], BL5.out⟩
                    case measure => simp [intOf]; omega
            · have hj' : j = p.s.length := by omega
              have OWN2 := Lib.hid (own_below' OWN.out BL.out (Nat.le_refl _))
              have BEL2 := Lib.hid (BEL.out.trans (hbel.mono hsz))
              obtain ⟨nb, hnb⟩ : ∃ t, neB p.s p.o done (v : Int) j = t := ⟨_, rfl⟩
              rw [hnb]
              have HNB := Lib.hid (show neB p.s p.o done (v : Int) p.s.length = nb by rw [← hj']; exact hnb)
              have hs2 : w1.heap.size ≤ wr.heap.size := BEL2.out.size
              clear hbel hnb
              subst hj'
              cases nb with
              | true =>
                have HIT := Lib.hid (neK_hit (N := N) (s := p.s) (o := p.o) (done := done) (m := v) (by rw [HHB.out, HNB.out]; rfl))
                go_wp2_with (at_builtin; refine list_step (fun K hK => ?_); refine step_app1 Try.underlying22 info_int rfl (by omega) rfl (.tmp 66) (.tmp 68) rfl w1.heap.size (neK N p.s p.o done v).length _ _ rfl (World.ownsRow.alloc OWN2.out _) wr.heap.size 1 (I (v : Int)) rfl (by simp) rfl (by omega) (by simp; omega) ?_; intro A7 c7 w7 hown7 hg7 hbel7; go_simp; refine hK _ _ ?_; clear hK K)
                go_roundw
                case rel =>
                  have hl : (neK N p.s p.o done (v + 1)).length = (neK N p.s p.o done v).length + 1 := by rw [HIT.out]; simp
                  have hm : (neK N p.s p.o done (v + 1)).map I = (neK N p.s p.o done v).map I ++ [I (v : Int)] := by rw [HIT.out]; simp
                  exact ⟨v + 1, A7, c7, by omega, by go_num, by rw [hl], by rw [hl, hm]; exact hown7, (BEL2.out.alloc hs2 _).trans hbel7⟩
                case measure => simp [intOf]; omega
              | false =>
                have MISS := Lib.hid (neK_miss (N := N) (s := p.s) (o := p.o) (done := done) (m := v) (by rw [HHB.out, HNB.out]; rfl))
                go_wp2
                go_roundw
                case rel => exact ⟨v + 1, A4, c4, by omega, by go_num, by rw [MISS.out], by rw [MISS.out]; exact OWN2.out, BEL2.out⟩
                case measure => simp [intOf]; omega
    · have hv' : v = R := by omega
      subst hv'
      go_wp2
      go_ret
      exact ⟨A4, c4, rfl, own_base OWN.out (by omega), HBW.out⟩
end Go.Proofs.Ytbbjgcagkmlngaa
/- The steps of two plans behind each other: the program's. -/
namespace Go.Proofs.Ytbbjgcagkmlngaa
open Go.RowKit

/-- The names of new values. -/
def tailN (b : Int) (m : Nat) : List Int := (List.range m).map fun i : Nat => b + i
theorem tailN_length (b : Int) (m : Nat) : (tailN b m).length = m := by simp [tailN]
theorem tailN_succ (b : Int) (m : Nat) : tailN b (m + 1) = tailN b m ++ [b + m] := by simp [tailN, List.range_succ]
theorem boxesPQ {w w2 : World} {a b c a' b' c' : Value} {t t' : TypeId} (h : (w.alloc (.cells #[a, b, c] t)).alloc (.cells #[a', b', c'] t') = w2) :
    w2.heap[w.heap.size]? = some (.cells #[a, b, c] t (0, 0)) ∧ w2.heap[w.heap.size + 1]? = some (.cells #[a', b', c'] t' (0, 0)) ∧ w2.heap.size = w.heap.size + 2 ∧ Below w.heap.size w w2 := by
  subst h
  refine ⟨?_, ?_, by simp, ((Below.refl _ _).alloc (Nat.le_refl _) _).alloc (by simp) _⟩
  · rw [Below.heap_alloc _ _ _ (by simp)]; exact heap_alloc_new w _
  · have := heap_alloc_new (w.alloc (.cells #[a, b, c] t)) (.cells #[a', b', c'] t')
    simpa using this

end Go.Proofs.Ytbbjgcagkmlngaa
/- The steps of two plans behind each other: the model's. -/
namespace Go.Proofs.Ytbbjgcagkmlngaa
open Go.RowKit

theorem tailN_get (L : List Int) (b : Int) {k m x : Nat} (hx : x < L.length + k) (hk : k ≤ m) : (L ++ tailN b m).getD x 0 = (L ++ tailN b k).getD x 0 := by
  rw [List.getD_eq_getElem?_getD, List.getD_eq_getElem?_getD, List.getElem?_append, List.getElem?_append]
  split
  · rfl
  · simp [tailN, show x - L.length < m by omega, show x - L.length < k by omega]

end Go.Proofs.Ytbbjgcagkmlngaa
/- Plans behind each other as data; what both sides answer for a plan or none. -/
namespace Go.Proofs.Ytbbjgcagkmlngaa
open Go.RowKit

set_option maxRecDepth 100000 in
set_option maxHeartbeats 1000000 in
theorem planOrNone_any (B : Nat) (A1 A2 : Option Addr) (c1 c2 : Nat) (p : Pl) (w : World) (hB : B ≤ w.heap.size) (hls : p.s.length ≤ 2000000) (hlo : p.o.length ≤ 2000000) (hr : RdP w B A1 A2 p) :
    Calls Try.prog 107 #[.agg #[.int .i64 p.n, .slice A1 p.s.length c1, .slice A2 p.o.length c2]] w fun e w' =>
      e = .returned (.tuple #[selV (good p) (.agg #[.int .i64 p.n, .slice A1 p.s.length c1, .slice A2 p.o.length c2]) (.agg #[.int .i64 0, .slice none 0 0, .slice none 0 0]), .bool (good p)]) ∧ Below w.heap.size w w' := by
  have H := Lib.hid hr
  clear hr
  obtain ⟨gd, hgd⟩ : ∃ x, good p = x := ⟨_, rfl⟩
  have HG := Lib.hid hgd
  go_enter Try.func107, Try.ntmps107
  go_wp2_with fail
  go_at_call 130
  generalize hw1 : World.alloc (World.alloc w _) _ = w1
  obtain ⟨q0, q1, xs, xb⟩ := boxes2b hw1
  clear hw1
  have hC := implIsPlan_any w.heap.size A1 A2 c1 c2 p w1 (by omega) hls hlo ((H.out.below' xb hB).more hB)
  rw [hgd] at hC
  refine hC.mono ?_
  rintro e w2 ⟨rfl, hb2⟩
  clear hC hgd
  obtain ⟨y0, y1, y2, _, _, _⟩ := cells3b ((hb2.block w.heap.size (by omega)).trans q0)
  obtain ⟨t0, t1, t2, g0, g1, g2⟩ := cells3b ((hb2.block (w.heap.size + 1) (by omega)).trans q1)
  have HB2 := Lib.hid (xb.trans (hb2.mono (show w.heap.size ≤ w1.heap.size by omega)))
  clear q0 q1 xs xb hb2
  cases gd with
  | false =>
    go_wp2
    refine bodyPost_ret (v := .tuple #[.agg #[.int .i64 0, .slice none 0 0, .slice none 0 0], .bool false]) (by simp [results, Try.results107, go_sem, t0, t1, t2]) rfl ⟨by rw [HG.out]; rfl, ?_⟩
    exact ((HB2.out.setCell (by simp) _).setCell (by simp) _).setCell (by simp) _
  | true =>
    go_wp2
    refine bodyPost_ret (v := .tuple #[.agg #[.int .i64 p.n, .slice A1 p.s.length c1, .slice A2 p.o.length c2], .bool true]) (by simp [results, Try.results107, go_sem, t0, t1, t2]) rfl ⟨by rw [HG.out]; rfl, ?_⟩
    exact ((HB2.out.setCell (by simp) _).setCell (by simp) _).setCell (by simp) _
def compNm (p q : Pl) : List Int := p.o ++ tailN (p.n + p.s.length) q.s.length
def compD (p q : Pl) : Pl := ⟨p.n, p.s ++ q.s.map (stN (compNm p q)), q.o.map fun x => (compNm p q).getD x.toNat 0⟩
def compB (p q : Pl) : Bool := (good p && (good q && decide ((p.o.length : Int) = q.n))) && good (compD p q)
def compR (p q : Pl) : Pl := if compB p q then compD p q else zeroP
theorem compR_true {p q : Pl} (h : compB p q = true) : compR p q = compD p q := by unfold compR; rw [if_pos h]
theorem compR_false {p q : Pl} (h : compB p q = false) : compR p q = zeroP := by unfold compR; rw [if_neg (by rw [h]; decide)]
theorem compD_s (p q : Pl) : (compD p q).s.length = p.s.length + q.s.length := by simp [compD]
theorem compD_o (p q : Pl) : (compD p q).o.length = q.o.length := by simp [compD]
theorem boxesPQZ {w w2 : World} {a b c a' b' c' : Value} {t t' : TypeId} (h : ((w.alloc (.cells #[a, b, c] t)).alloc (.cells #[a', b', c'] t')).alloc (.cells #[.int .i64 0, .slice none 0 0, .slice none 0 0] 36) = w2) :
    w2.heap[w.heap.size]? = some (.cells #[a, b, c] t (0, 0)) ∧ w2.heap[w.heap.size + 1]? = some (.cells #[a', b', c'] t' (0, 0)) ∧ w2.heap[w.heap.size + 2]? = some (.cells #[.int .i64 0, .slice none 0 0, .slice none 0 0] 36 (0, 0)) ∧ w2.heap.size = w.heap.size + 3 ∧ Below w.heap.size w w2 := by
  subst h
  refine ⟨?_, ?_, ?_, by simp, (((Below.refl _ _).alloc (Nat.le_refl _) _).alloc (by simp) _).alloc (by simp; omega) _⟩
  · rw [Below.heap_alloc _ _ _ (by simp; omega), Below.heap_alloc _ _ _ (by simp)]; exact heap_alloc_new w _
  · rw [Below.heap_alloc _ _ _ (by simp)]
    have := heap_alloc_new (w.alloc (.cells #[a, b, c] t)) (.cells #[a', b', c'] t')
    simpa using this
  · have := heap_alloc_new ((w.alloc (.cells #[a, b, c] t)).alloc (.cells #[a', b', c'] t')) (.cells #[.int .i64 0, .slice none 0 0, .slice none 0 0] 36)
    simpa using this
end Go.Proofs.Ytbbjgcagkmlngaa
/- The numbers 0..n-1, of the model; plans beside each other as data. -/
namespace Go.Proofs.Ytbbjgcagkmlngaa
open Go.RowKit

set_option maxRecDepth 100000 in
set_option maxHeartbeats 1000000 in
theorem plUpTo_any (N : Nat) (w : World) (h6 : N ≤ 1000) :
    Calls Try.prog 77 #[.int .i64 (N : Int)] w fun e w' => ∃ A c, e = .returned (.slice A N c) ∧ OwI w' w.heap.size (.slice A N c) (ups N) ∧ Below w.heap.size w w' := by
  go_enter Try.func77, Try.ntmps77
  go_wp2
  go_loopw [3, 4] (fun v i wr => ∃ (k : Nat) (A : Option Addr) (c : Nat), k ≤ N ∧ i = .int .i64 k ∧ v = .slice A k c ∧ wr.ownsRow w.heap.size 3 1 (.slice A k c) k ((ups k).map I) ∧ Below w.heap.size w wr) (fun _ i _ => N - (intOf i).toNat)
  case atStart => exact ⟨0, none, 0, by omega, rfl, rfl, World.ownsRow_nil _ _ _ _, Below.refl _ _⟩
  case round =>
    obtain ⟨k, A, c, hk, rfl, rfl, hown, hbel⟩ := hrel
    have hsz := hbel.size
    have OWN := Lib.hid hown
    have BEL := Lib.hid hbel
    clear hown hbel
    by_cases hlt : k < N
    · go_wp2_with (at_builtin; refine list_step (fun K hK => ?_); refine step_app1 Try.underlying22 info_int rfl (by omega) rfl (.tmp 10) (.tmp 12) rfl w.heap.size k _ ((ups k).map I) rfl (World.ownsRow.alloc OWN.out _) wr.heap.size 1 (I (k : Int)) rfl (by rw [World.cell?_alloc_at _ _ _ _ rfl]; rfl) rfl (by omega) (by simp; omega) ?_; intro A5 c5 w6 hown6 hg6 hbel6; go_simp; refine hK _ _ ?_; clear hK K)
      go_roundw
      case rel =>
        refine ⟨k + 1, A5, c5, by omega, by go_num, rfl, ?_, (BEL.out.alloc hsz _).trans hbel6⟩
        rw [ups_succ, List.map_append]
        exact hown6
      case measure => simp [intOf]; omega
    · have hk' : k = N := by omega
      subst hk'
      go_wp2
      go_ret
      refine ⟨A, c, rfl, ?_, BEL.out⟩
      show World.ownsRow _ _ _ _ _ _ _
      rw [ups_length]
      exact OWN.out

def joinNm (p q : Pl) : List Int := ups p.n.toNat ++ tailN (p.n + p.s.length) q.s.length
def joinD (p q : Pl) : Pl := ⟨p.n, p.s ++ q.s.map (stN (joinNm p q)), p.o ++ q.o.map fun x => (joinNm p q).getD x.toNat 0⟩
def joinB (p q : Pl) : Bool := (good p && (good q && decide (p.n = q.n))) && good (joinD p q)
def joinR (p q : Pl) : Pl := if joinB p q then joinD p q else zeroP
theorem joinR_true {p q : Pl} (h : joinB p q = true) : joinR p q = joinD p q := by unfold joinR; rw [if_pos h]
theorem joinR_false {p q : Pl} (h : joinB p q = false) : joinR p q = zeroP := by unfold joinR; rw [if_neg (by rw [h]; decide)]
theorem joinD_s (p q : Pl) : (joinD p q).s.length = p.s.length + q.s.length := by simp [joinD]
theorem joinD_o (p q : Pl) : (joinD p q).o.length = p.o.length + q.o.length := by simp [joinD]
end Go.Proofs.Ytbbjgcagkmlngaa
/- Values that are used later, by the model. -/
namespace Go.Proofs.Ytbbjgcagkmlngaa
open Go.RowKit

end Go.Proofs.Ytbbjgcagkmlngaa
/- Values that are there and needed, by the program, whatever tells which values are there. -/
namespace Go.Proofs.Ytbbjgcagkmlngaa
open Go.RowKit

/-- What is asked of the function that tells which values are there. -/
def Here (gf : Nat) (lf : Array Value) (f : Nat → Bool) (R : Nat) (w : World) : Prop :=
  ∀ (W : World) (n : Nat), Below w.heap.size w W → n < R → Calls Try.prog gf (#[.int .i64 (n : Int)] ++ lf) W fun e w' => e = .returned (.bool (f n)) ∧ Below W.heap.size W w'
theorem Here.below {gf : Nat} {lf : Array Value} {f : Nat → Bool} {R : Nat} {w w' : World} (h : Here gf lf f R w) (hb : Below w.heap.size w w') : Here gf lf f R w' :=
  fun W n hW hn => h W n (hb.trans (hW.mono hb.size)) hn

/-- One of the first j uses is a step whose value is not there. -/
def wtK (N : Nat) (f : Nat → Bool) (l : List Int) (j : Nat) : Bool := (l.take j).any fun i => !f (N + i.toNat)
theorem wtK_succ {N : Nat} {f : Nat → Bool} {l : List Int} {j : Nat} (h : j < l.length) : wtK N f l (j + 1) = (wtK N f l j || !f (N + l[j].toNat)) := by
  unfold wtK
  rw [List.take_succ_eq_append_getElem h, List.any_append]
  simp
theorem wtK_mono {N : Nat} {f : Nat → Bool} {l : List Int} {j : Nat} (h : wtK N f l j = true) : wtK N f l l.length = true := by
  unfold wtK at h ⊢
  rw [List.any_eq_true] at h ⊢
  obtain ⟨x, hx, h2⟩ := h
  exact ⟨x, by rw [List.take_length]; exact List.mem_of_mem_take hx, h2⟩

set_option maxRecDepth 100000 in
set_option maxHeartbeats 1000000 in
theorem waits_any (gf : Nat) (lf : Array Value) (ef : ∀ args w, (callFunc gf args).run Try.prog w = .ok (.enter gf args) w) (f : Nat → Bool) (R N g1 g2 x : Nat) (w : World) (hN : N ≤ 1000) (hx : N + x < R) (hR : R ≤ 1000) (h1 : w.cell? ⟨g1, 0, none⟩ = some (.func (.func gf) #[] lf)) (h2 : w.cell? ⟨g2, 0, none⟩ = some (.int .i64 N)) (H : Here gf lf f R w) :
    Calls Try.prog 145 #[.int .i64 (x : Int), .pointer (some ⟨g1, 0, none⟩), .pointer (some ⟨g2, 0, none⟩)] w fun e w' => e = .returned (.bool (!f (N + x))) ∧ Below w.heap.size w w' := by
  have HC := H w (N + x) (Below.refl _ _) hx
  have hw1 : IntKind.i64.wrap ((N : Int) + (x : Int)) = ((N + x : Nat) : Int) := by rw [IntWalk.i64_in _ (by omega)]; omega
  obtain ⟨t, ht⟩ : ∃ t, f (N + x) = t := ⟨_, rfl⟩
  rw [ht] at HC
  rw [ht]
  obtain ⟨M, hM⟩ : ∃ M, N + x = M := ⟨_, rfl⟩
  rw [hM] at hw1 HC
  have HC := Lib.hid HC
  clear H ht hx hM
  go_enter Try.func145, Try.ntmps145
  go_wp2_with fail
  go_at_fn gf
  refine HC.out.mono ?_
  rintro e w2 ⟨rfl, hb⟩
  have HB := Lib.hid hb
  clear hb h1 h2
  go_wp2
  go_ret
  exact ⟨by cases t <;> rfl, HB.out⟩

set_option maxRecDepth 100000 in
set_option maxHeartbeats 2000000 in
theorem indexWaits_any (B gf : Nat) (lf : Array Value) (ef : ∀ args w, (callFunc gf args).run Try.prog w = .ok (.enter gf args) w) (f : Nat → Bool) (R N g1 g2 : Nat) (A : Option Addr) (c : Nat) (l : List Int) (w : World) (hN : N ≤ 1000) (hR : R ≤ 1000) (hB : B ≤ w.heap.size) (hin : ∀ x ∈ l, 0 ≤ x ∧ (N : Int) + x < R) (hl : l.length ≤ 1000)
    (h1 : w.cell? ⟨g1, 0, none⟩ = some (.func (.func gf) #[] lf)) (h2 : w.cell? ⟨g2, 0, none⟩ = some (.int .i64 N)) (h1s : g1 < w.heap.size) (h2s : g2 < w.heap.size) (HH : Here gf lf f R w) (hr : Rd w B 1 A l.length (l.map I)) :
    Calls Try.prog 150 #[.slice A l.length c, .func (.func 145) #[] #[.pointer (some ⟨g1, 0, none⟩), .pointer (some ⟨g2, 0, none⟩)]] w fun e w' => (∃ i : Int, e = .returned (.int .i64 i) ∧ decide (0 ≤ i) = wtK N f l l.length) ∧ Below w.heap.size w w' := by
  have H := Lib.hid hr
  have HIN := Lib.hid hin
  have W0 := Lib.hid (fun (x : Nat) (W : World) (hW : Below w.heap.size w W) (hx : N + x < R) => waits_any gf lf ef f R N g1 g2 x W hN hx hR ((hW.cell (p := ⟨g1, 0, none⟩) h1s).trans h1) ((hW.cell (p := ⟨g2, 0, none⟩) h2s).trans h2) (HH.below hW))
  clear hr h1 h2 HH hin
  go_enter Try.func150, Try.ntmps150
  go_wp2
  go_loopw [8] (fun iv wr => ∃ j : Nat, j ≤ l.length ∧ iv = .int .i64 j ∧ wtK N f l j = false ∧ Below w.heap.size w wr) (fun i _ => l.length - (intOf i).toNat)
  case atStart => exact ⟨0, by omega, rfl, rfl, Below.refl _ _⟩
  case round =>
    obtain ⟨j, hj, rfl, hno, hbel⟩ := hrel
    by_cases hlt : j < l.length
    · have iqk : (j : Int) < (l.length : Int) := by omega
      obtain ⟨b, off, rfl, hb, hc⟩ := (H.out.below' hbel hB).int hlt
      have hno2 := wtK_succ (N := N) (f := f) hlt
      rw [hno, Bool.false_or] at hno2
      obtain ⟨hx0, hxR⟩ := HIN.out _ (List.getElem_mem hlt)
      obtain ⟨x, hx⟩ : ∃ x : Nat, l[j] = (x : Int) := ⟨l[j].toNat, by omega⟩
      rw [hx] at hc hno2
      rw [Int.toNat_natCast] at hno2
      have HB := W0.out x wr hbel (by omega)
      obtain ⟨t, ht⟩ : ∃ t, (!f (N + x)) = t := ⟨_, rfl⟩
      rw [ht] at hno2 HB
      have HB := Lib.hid HB
      have NO2 := Lib.hid hno2
      have BEL := Lib.hid hbel
      have hsz := hbel.size
      clear hno hno2 hx ht hbel hx0 hxR
      go_wp2_with fail
      refine HB.out.mono ?_
      rintro e w5 ⟨rfl, hb5⟩
      have BEL5 := Lib.hid (BEL.out.trans (hb5.mono hsz))
      clear hb5
      cases t with
      | true =>
        go_wp2
        go_ret
        refine ⟨⟨_, rfl, ?_⟩, BEL5.out⟩
        rw [wtK_mono NO2.out]
        exact decide_eq_true (by omega)
      | false =>
        go_wp2
        go_roundw
        case rel => exact ⟨j + 1, by omega, by go_num, NO2.out, BEL5.out⟩
        case measure => simp [intOf]; omega
    · have hj' : j = l.length := by omega
      subst hj'
      go_wp2
      go_ret
      exact ⟨⟨_, rfl, by rw [hno]; rfl⟩, hbel⟩

set_option maxRecDepth 100000 in
set_option maxHeartbeats 1000000 in
theorem containsWaits_any (B gf : Nat) (lf : Array Value) (ef : ∀ args w, (callFunc gf args).run Try.prog w = .ok (.enter gf args) w) (f : Nat → Bool) (R N g1 g2 : Nat) (A : Option Addr) (c : Nat) (l : List Int) (w : World) (hN : N ≤ 1000) (hR : R ≤ 1000) (hB : B ≤ w.heap.size) (hin : ∀ x ∈ l, 0 ≤ x ∧ (N : Int) + x < R) (hl : l.length ≤ 1000)
    (h1 : w.cell? ⟨g1, 0, none⟩ = some (.func (.func gf) #[] lf)) (h2 : w.cell? ⟨g2, 0, none⟩ = some (.int .i64 N)) (h1s : g1 < w.heap.size) (h2s : g2 < w.heap.size) (HH : Here gf lf f R w) (hr : Rd w B 1 A l.length (l.map I)) :
    Calls Try.prog 143 #[.slice A l.length c, .func (.func 145) #[] #[.pointer (some ⟨g1, 0, none⟩), .pointer (some ⟨g2, 0, none⟩)]] w fun e w' => e = .returned (.bool (wtK N f l l.length)) ∧ Below w.heap.size w w' := by
  have HI := Lib.hid (indexWaits_any B gf lf ef f R N g1 g2 A c l w hN hR hB hin hl h1 h2 h1s h2s HH hr)
  clear hr h1 h2 HH hin
  go_enter Try.func143, Try.ntmps143
  go_wp2_with fail
  go_at_call 150
  refine HI.out.mono ?_
  rintro e w2 ⟨⟨i, rfl, hi⟩, hb⟩
  have HII := Lib.hid hi
  have HB := Lib.hid hb
  clear hi hb
  go_wp2
  go_ret
  exact ⟨by rw [← HII.out]; rfl, HB.out⟩

theorem lgB_any (N : Nat) (s : List (Int × Int)) (o : List Int) (f : Nat → Bool) (v : Int) : lgB N s o f v = (decide (0 < (usO o v o.length).length) || wtK N f (usS s v s.length) (usS s v s.length).length) := by
  unfold lgB wtK
  rw [List.take_length]
theorem box4w {w w1 : World} {a b c d : Value} {t : TypeId} (h : w.alloc (.cells #[a, b, c, d] t) = w1) :
    (w1.cell? ⟨w.heap.size, 0, none⟩ = some a ∧ w1.cell? ⟨w.heap.size, 1, none⟩ = some b ∧ w1.cell? ⟨w.heap.size, 2, none⟩ = some c ∧ w1.cell? ⟨w.heap.size, 3, none⟩ = some d) ∧ w1.heap.size = w.heap.size + 1 ∧ Below w.heap.size w w1 :=
  let ⟨h0, h1, h2, h3, hs, hb⟩ := box4 h
  ⟨⟨h0, h1, h2, h3⟩, hs, hb⟩
theorem box1w {w w1 : World} {a : Value} {t : TypeId} (h : w.alloc (.cells #[a] t) = w1) :
    w1.cell? ⟨w.heap.size, 0, none⟩ = some a ∧ w1.heap.size = w.heap.size + 1 ∧ Below w.heap.size w w1 := by
  subst h
  refine ⟨?_, by simp, (Below.refl _ _).alloc (Nat.le_refl _) _⟩
  rw [World.cell?_alloc_at _ _ _ _ rfl]; rfl
theorem usS_inI (s : List (Int × Int)) (v : Int) : ∀ x ∈ usS s v s.length, 0 ≤ x ∧ x < s.length := by
  intro x hx
  obtain ⟨i, h1, rfl, _⟩ := mem_usS.1 hx
  omega

set_option maxRecDepth 100000 in
set_option maxHeartbeats 8000000 in
theorem live_any (B N R gf : Nat) (lf : Array Value) (ef : ∀ args w, (callFunc gf args).run Try.prog w = .ok (.enter gf args) w) (f : Nat → Bool) (A1 A2 A : Option Addr) (c1 c2 c : Nat) (p : Pl) (w : World) (hs40 : p.s.length ≤ 40) (ho6 : p.o.length ≤ 6) (hN : N ≤ 6) (hR : R = N + p.s.length) (hB : B ≤ w.heap.size) (hr : RdP w B A1 A2 p) (HH : Here gf lf f R w) :
    Calls Try.prog 134 #[.agg #[.int .i64 N, .slice A1 p.s.length c1, .slice A2 p.o.length c2, .slice A R c], .func (.func gf) #[] lf] w fun e w' =>
      ∃ A' c', e = .returned (.slice A' (lg N p.s p.o f).length c') ∧ OwI w' w.heap.size (.slice A' (lg N p.s p.o f).length c') (lg N p.s p.o f) ∧ (lg N p.s p.o f = [] → A' = none ∧ c' = 0) ∧ Below w.heap.size w w' := by
  have US := Lib.hid (fun W hW hr => allUses_any B N R A1 A2 A c1 c2 c p W hs40 ho6 (by omega) hW hr)
  have H := Lib.hid hr
  have EL := Lib.hid (show lg N p.s p.o f = lgK N p.s p.o f R by unfold lg; rw [hR])
  have hR46 : R ≤ 46 := by omega
  have HUI := Lib.hid (fun v => (fun x hx => ⟨(usS_inI p.s v x hx).1, by have := (usS_inI p.s v x hx).2; omega⟩ : ∀ x ∈ usS p.s v p.s.length, 0 ≤ x ∧ (N : Int) + x < R))
  have HH0 := Lib.hid HH
  clear hr hR HH
  go_enter Try.func134, Try.ntmps134
  go_wp2_with fail
  go_at_call 146
  generalize hw1 : World.alloc w _ = w1
  obtain ⟨⟨x0, x1, x2, x3⟩, xs, xb⟩ := box4w hw1
  clear hw1
  generalize hw2 : World.alloc w1 _ = w2
  obtain ⟨y0, ys, yb⟩ := box1w hw2
  clear hw2
  rw [xs] at y0
  have x0 := (yb.cell (p := ⟨w.heap.size, 0, none⟩) (by simp only []; omega)).trans x0
  have HB2 := Lib.hid (xb.trans (yb.mono (by omega)))
  have hs2 : w.heap.size + 2 = w2.heap.size := by omega
  clear x1 x2 x3 xs xb ys yb
  refine (US.out w2 (by omega) (H.out.below' HB2.out hB)).mono ?_
  rintro e w3 ⟨A3, c3, fo, fs, rfl, hU, hb3⟩
  have HU := Lib.hid hU
  have HB3 := Lib.hid (HB2.out.trans (hb3.mono (by omega)))
  have x0 := (hb3.cell (p := ⟨w.heap.size, 0, none⟩) (by simp only []; omega)).trans x0
  have y0 := (hb3.cell (p := ⟨w.heap.size + 1, 0, none⟩) (by simp only []; omega)).trans y0
  have hs3 : w.heap.size + 2 ≤ w3.heap.size := by have := hb3.size; omega
  have icap : (R : Int) ≤ (c3 : Int) := by have := own_cap hU.1; omega
  clear hU hb3 hs2
  go_wp2
  go_loopw [6, 13] (fun ov iv wr => ∃ (j : Nat) (A4 : Option Addr) (c4 : Nat), j ≤ R ∧ iv = .int .i64 j ∧ ov = .slice A4 (lgK N p.s p.o f j).length c4 ∧ wr.ownsRow w3.heap.size 3 1 (.slice A4 (lgK N p.s p.o f j).length c4) (lgK N p.s p.o f j).length ((lgK N p.s p.o f j).map I) ∧ (lgK N p.s p.o f j = [] → A4 = none ∧ c4 = 0) ∧ Below w3.heap.size w3 wr) (fun _ i _ => R - (intOf i).toNat)
  case atStart => exact ⟨0, none, 0, by omega, rfl, rfl, by simpa [lgK] using World.ownsRow_nil _ _ _ _, fun _ => ⟨rfl, rfl⟩, Below.refl _ _⟩
  case round =>
    obtain ⟨j, A4, c4, hj, rfl, rfl, hown, hnil, hbel⟩ := hrel
    have hsz : w3.heap.size ≤ wr.heap.size := hbel.size
    have hle := lgK_le N p.s p.o f j
    by_cases hlt : j < R
    · have iqj : (j : Int) < (R : Int) := by omega
      have hUr := HU.out.below hbel
      obtain ⟨g, rfl, _, hg4, d0, d1⟩ := hUr.at_ hlt
      have hS := (hUr.2 j hlt).2.rd
      have l1 := usS_le p.s (j : Int) p.s.length
      have hlv := lgB_any N p.s p.o f (j : Int)
      have z0 := (hbel.cell (p := ⟨w.heap.size, 0, none⟩) (by simp only []; omega)).trans x0
      have z1 := (hbel.cell (p := ⟨w.heap.size + 1, 0, none⟩) (by simp only []; omega)).trans y0
      obtain ⟨a1, ha1⟩ : ∃ a, fo j = a := ⟨_, rfl⟩
      obtain ⟨a2, ha2⟩ : ∃ a, fs j = a := ⟨_, rfl⟩
      rw [ha1] at d0
      rw [ha2] at d1 hS
      have HBW := Lib.hid (HB3.out.trans (hbel.mono (show w.heap.size ≤ w3.heap.size by omega)))
      have CW := Lib.hid (fun W (hW : Below wr.heap.size wr W) => containsWaits_any wr.heap.size gf lf ef f R N (w.heap.size + 1) w.heap.size a2.1 a2.2 (usS p.s (j : Int) p.s.length) W (by omega) (by omega) hW.size (HUI.out _) (by omega) ((hW.cell (p := ⟨w.heap.size + 1, 0, none⟩) (by simp only []; omega)).trans z1) ((hW.cell (p := ⟨w.heap.size, 0, none⟩) (by simp only []; omega)).trans z0) (by have := hW.size; omega) (by have := hW.size; omega) (HH0.out.below (HBW.out.trans (hW.mono (by omega)))) (hS.below hW))
      have HF := Lib.hid (fun W (hW : Below wr.heap.size wr W) => HH0.out W j (HBW.out.trans (hW.mono (show w.heap.size ≤ wr.heap.size by omega))) hlt)
      obtain ⟨q, hq⟩ : ∃ q, (usO p.o (j : Int) p.o.length).length = q := ⟨_, rfl⟩
      obtain ⟨s1, hs1⟩ : ∃ q, (usS p.s (j : Int) p.s.length).length = q := ⟨_, rfl⟩
      obtain ⟨t, ht⟩ : ∃ t, f j = t := ⟨_, rfl⟩
      obtain ⟨u, hu⟩ : ∃ t, wtK N f (usS p.s (j : Int) p.s.length) (usS p.s (j : Int) p.s.length).length = t := ⟨_, rfl⟩
      have hcw := CW.out
      have hff := HF.out
      rw [hu] at hcw hlv
      rw [hs1] at hcw d1 l1
      rw [ht] at hff
      rw [hq] at d0 hlv
      have HCW := Lib.hid hcw
      have HFF := Lib.hid hff
      have LV := Lib.hid hlv
      have HT := Lib.hid ht
      have OWN := Lib.hid hown
      have NIL := Lib.hid hnil
      have BEL := Lib.hid hbel
      clear hUr hS hlv ht hu hs1 hq ha1 ha2 hown hnil hbel hcw hff CW HF
      have Z1 := cell_kept z1
      go_wp2_with fail
      go_at_fn gf
      clear Z1
      generalize hw5 : World.alloc wr _ = w5
      obtain ⟨e0, e1, es, eb⟩ := box2 hw5
      clear hw5
      refine (HFF.out w5 eb).mono ?_
      rintro e w6 ⟨rfl, hb6⟩
      have hb56 : Below wr.heap.size wr w6 := eb.trans (hb6.mono (by omega))
      have OWN6 := Lib.hid (own_below OWN.out hb56)
      have BEL6 := Lib.hid (BEL.out.trans (hb56.mono hsz))
      have B56 := Lib.hid hb56
      have hs6 : w3.heap.size ≤ w6.heap.size := BEL6.out.size
      have e0 := (hb6.cell (p := ⟨wr.heap.size, 0, none⟩) (by simp only []; omega)).trans e0
      have e1 := (hb6.cell (p := ⟨wr.heap.size, 1, none⟩) (by simp only []; omega)).trans e1
      clear es eb hb6 hb56 d0 d1 z0 z1
      cases t with
      | false =>
        have MISS := Lib.hid (lgK_miss (N := N) (s := p.s) (o := p.o) (f := f) (m := j) (by rw [HT.out]; rfl))
        clear e0 e1
        go_wp2
        go_roundw
        case rel => exact ⟨j + 1, A4, c4, by omega, by go_num, by rw [MISS.out], by rw [MISS.out]; exact OWN6.out, by rw [MISS.out]; exact NIL.out, BEL6.out⟩
        case measure => simp [intOf]; omega
      | true =>
        by_cases hq0 : 0 < q
        · have iq : (0 : Int) < (q : Int) := by omega
          have HIT := Lib.hid (lgK_hit (N := N) (s := p.s) (o := p.o) (f := f) (m := j) (by rw [HT.out, LV.out, decide_eq_true hq0]; rfl))
          clear hq0
          go_wp2_with (at_builtin; refine list_step (fun K hK => ?_); refine step_app1 Try.underlying22 info_int rfl (by omega) rfl (.tmp 33) (.tmp 35) rfl w3.heap.size (lgK N p.s p.o f j).length _ _ rfl (World.ownsRow.alloc OWN6.out _) w6.heap.size 1 (I (j : Int)) rfl (by simp) rfl (by omega) (by simp; omega) ?_; intro A7 c7 w7 hown7 hg7 hbel7; go_simp; refine hK _ _ ?_; clear hK K)
          go_roundw
          case rel =>
            have hl : (lgK N p.s p.o f (j + 1)).length = (lgK N p.s p.o f j).length + 1 := by rw [HIT.out]; simp
            have hm : (lgK N p.s p.o f (j + 1)).map I = (lgK N p.s p.o f j).map I ++ [I (j : Int)] := by rw [HIT.out]; simp
            exact ⟨j + 1, A7, c7, by omega, by go_num, by rw [hl], by rw [hl, hm]; exact hown7, fun h => by rw [HIT.out] at h; simp at h, (BEL6.out.alloc hs6 _).trans hbel7⟩
          case measure => simp [intOf]; omega
        · have iq : ¬ (0 : Int) < (q : Int) := by omega
          have L2 := Lib.hid (show lgB N p.s p.o f (j : Int) = u by rw [LV.out, decide_eq_false hq0]; rfl)
          clear hq0
          go_wp2_with fail
          go_at_call 143
          refine (HCW.out w6 B56.out).mono ?_
          rintro e w8 ⟨rfl, hb8⟩
          have OWN8 := Lib.hid (own_below' OWN6.out hb8 (by omega))
          have BEL8 := Lib.hid (BEL6.out.trans (hb8.mono hs6))
          have hs8 : w3.heap.size ≤ w8.heap.size := BEL8.out.size
          clear hb8 e0 e1
          cases u with
          | false =>
            have MISS := Lib.hid (lgK_miss (N := N) (s := p.s) (o := p.o) (f := f) (m := j) (by rw [L2.out]; simp))
            go_wp2
            go_roundw
            case rel => exact ⟨j + 1, A4, c4, by omega, by go_num, by rw [MISS.out], by rw [MISS.out]; exact OWN8.out, by rw [MISS.out]; exact NIL.out, BEL8.out⟩
            case measure => simp [intOf]; omega
          | true =>
            have HIT := Lib.hid (lgK_hit (N := N) (s := p.s) (o := p.o) (f := f) (m := j) (by rw [HT.out, L2.out]; rfl))
            go_wp2_with (at_builtin; refine list_step (fun K hK => ?_); refine step_app1 Try.underlying22 info_int rfl (by omega) rfl (.tmp 33) (.tmp 35) rfl w3.heap.size (lgK N p.s p.o f j).length _ _ rfl (World.ownsRow.alloc OWN8.out _) w8.heap.size 1 (I (j : Int)) rfl (by simp) rfl (by omega) (by simp; omega) ?_; intro A7 c7 w7 hown7 hg7 hbel7; go_simp; refine hK _ _ ?_; clear hK K)
            go_roundw
            case rel =>
              have hl : (lgK N p.s p.o f (j + 1)).length = (lgK N p.s p.o f j).length + 1 := by rw [HIT.out]; simp
              have hm : (lgK N p.s p.o f (j + 1)).map I = (lgK N p.s p.o f j).map I ++ [I (j : Int)] := by rw [HIT.out]; simp
              exact ⟨j + 1, A7, c7, by omega, by go_num, by rw [hl], by rw [hl, hm]; exact hown7, fun h => by rw [HIT.out] at h; simp at h, (BEL8.out.alloc hs8 _).trans hbel7⟩
            case measure => simp [intOf]; omega
    · have hj' : j = R := by omega
      subst hj'
      have OWN := Lib.hid (own_base hown (show w.heap.size ≤ w3.heap.size by omega))
      have NIL := Lib.hid hnil
      have HB4 := Lib.hid (HB3.out.trans (hbel.mono (by omega)))
      clear hown hbel hnil
      go_wp2
      go_ret
      refine ⟨A4, c4, by rw [EL.out]; rfl, ?_, fun h => NIL.out (by rw [← EL.out]; exact h), HB4.out⟩
      show World.ownsRow _ _ _ _ _ _ _
      rw [EL.out]
      exact OWN.out
end Go.Proofs.Ytbbjgcagkmlngaa
/- Values that are used later, by the program. -/
namespace Go.Proofs.Ytbbjgcagkmlngaa
open Go.RowKit

set_option maxRecDepth 100000 in
set_option maxHeartbeats 1000000 in
theorem upto_any (N k g1 g2 n : Nat) (w : World) (hN : N ≤ 1000) (hk : k ≤ 1000) (h1 : w.cell? ⟨g1, 0, none⟩ = some (.int .i64 N)) (h2 : w.cell? ⟨g2, 0, none⟩ = some (.int .i64 k)) :
    Calls Try.prog 135 #[.int .i64 (n : Int), .pointer (some ⟨g1, 0, none⟩), .pointer (some ⟨g2, 0, none⟩)] w fun e w' => e = .returned (.bool (decide (n < N + k))) ∧ Below w.heap.size w w' := by
  have hw1 : IntKind.i64.wrap ((N : Int) + (k : Int)) = ((N + k : Nat) : Int) := by rw [IntWalk.i64_in _ (by omega)]; omega
  obtain ⟨M, hM⟩ : ∃ M, N + k = M := ⟨_, rfl⟩
  rw [hM] at hw1 ⊢
  have E := Lib.hid (show decide ((n : Int) < (M : Int)) = decide (n < M) by simp)
  clear hM
  go_enter Try.func135, Try.ntmps135
  go_wp2
  go_ret
  exact ⟨by rw [← E.out]; rfl, Below.refl _ _⟩

set_option maxRecDepth 100000 in
set_option maxHeartbeats 1000000 in
theorem liveAt_any2 (B N R k : Nat) (A1 A2 A : Option Addr) (c1 c2 c : Nat) (p : Pl) (w : World) (hs40 : p.s.length ≤ 40) (ho6 : p.o.length ≤ 6) (hN : N ≤ 6) (hR : R = N + p.s.length) (hk : k ≤ p.s.length) (hB : B ≤ w.heap.size) (hr : RdP w B A1 A2 p) :
    Calls Try.prog 112 #[.agg #[.int .i64 N, .slice A1 p.s.length c1, .slice A2 p.o.length c2, .slice A R c], .int .i64 (k : Int)] w fun e w' =>
      ∃ A' c', e = .returned (.slice A' (liv N p.s p.o k).length c') ∧ OwI w' w.heap.size (.slice A' (liv N p.s p.o k).length c') (liv N p.s p.o k) ∧ (liv N p.s p.o k = [] → A' = none ∧ c' = 0) ∧ Below w.heap.size w w' := by
  have H := Lib.hid hr
  have EL := Lib.hid (lg_upto (N := N) (o := p.o) hk)
  have LV := Lib.hid (fun W hW hr HH => live_any B N R 135 #[.pointer (some ⟨w.heap.size, 0, none⟩), .pointer (some ⟨w.heap.size + 1, 0, none⟩)] (enters_of Try.func135 (by kernel_rfl) rfl) (fun x => decide (x < N + k)) A1 A2 A c1 c2 c p W hs40 ho6 hN hR hW hr HH)
  have UP := Lib.hid (fun W n h1 h2 => upto_any N k w.heap.size (w.heap.size + 1) n W (by omega) (by omega) h1 h2)
  clear hr hR
  go_enter Try.func112, Try.ntmps112
  go_wp2_with fail
  go_at_call 134
  generalize hw1 : World.alloc w _ = w1
  obtain ⟨⟨x0, x1, x2, x3⟩, xs, xb⟩ := box4w hw1
  clear hw1
  generalize hw2 : World.alloc w1 _ = w2
  obtain ⟨y0, ys, yb⟩ := box1w hw2
  clear hw2
  rw [xs] at y0
  have x0 := (yb.cell (p := ⟨w.heap.size, 0, none⟩) (by simp only []; omega)).trans x0
  have HB2 := Lib.hid (xb.trans (yb.mono (by omega)))
  have hs2 : w.heap.size + 2 = w2.heap.size := by omega
  have hh : Here 135 #[.pointer (some ⟨w.heap.size, 0, none⟩), .pointer (some ⟨w.heap.size + 1, 0, none⟩)] (fun x => decide (x < N + k)) R w2 := by
    intro W n hW _
    have e : (#[Value.int .i64 (n : Int)] ++ #[.pointer (some ⟨w.heap.size, 0, none⟩), .pointer (some ⟨w.heap.size + 1, 0, none⟩)] : Array Value) = #[.int .i64 (n : Int), .pointer (some ⟨w.heap.size, 0, none⟩), .pointer (some ⟨w.heap.size + 1, 0, none⟩)] := rfl
    rw [e]
    exact UP.out W n ((hW.cell (p := ⟨w.heap.size, 0, none⟩) (by simp only []; omega)).trans x0) ((hW.cell (p := ⟨w.heap.size + 1, 0, none⟩) (by simp only []; omega)).trans y0)
  refine (LV.out w2 (by omega) (H.out.below' HB2.out hB) hh).mono ?_
  rintro e w3 ⟨A3, c3, rfl, hown, hnil, hb3⟩
  have OWN := Lib.hid hown
  have NIL := Lib.hid hnil
  have HB3 := Lib.hid (HB2.out.trans (hb3.mono (by omega)))
  clear hh hown hnil hb3 x0 x1 x2 x3 y0 xs xb ys yb
  go_wp2
  go_ret
  refine ⟨A3, c3, by rw [EL.out]; rfl, ?_, fun h => NIL.out (by rw [EL.out]; exact h), HB3.out⟩
  have h := OWN.out
  rw [EL.out] at h
  exact own_base h (by omega)
theorem liveAt_any (B N R k : Nat) (A1 A2 A : Option Addr) (c1 c2 c : Nat) (p : Pl) (w : World) (hs40 : p.s.length ≤ 40) (ho6 : p.o.length ≤ 6) (hN : N ≤ 6) (hR : R = N + p.s.length) (hk : k ≤ p.s.length) (hB : B ≤ w.heap.size) (hr : RdP w B A1 A2 p) :
    Calls Try.prog 112 #[.agg #[.int .i64 N, .slice A1 p.s.length c1, .slice A2 p.o.length c2, .slice A R c], .int .i64 (k : Int)] w fun e w' =>
      ∃ A' c', e = .returned (.slice A' (liv N p.s p.o k).length c') ∧ OwI w' w.heap.size (.slice A' (liv N p.s p.o k).length c') (liv N p.s p.o k) ∧ Below w.heap.size w w' :=
  (liveAt_any2 B N R k A1 A2 A c1 c2 c p w hs40 ho6 hN hR hk hB hr).mono fun _ _ ⟨A', c', h1, h2, _, h4⟩ => ⟨A', c', h1, h2, h4⟩
end Go.Proofs.Ytbbjgcagkmlngaa
/- LiveAt: what both sides answer. -/
namespace Go.Proofs.Ytbbjgcagkmlngaa
open Go.RowKit

def lvG (p : Pl) (x : Int) : Bool := good p && (decide (0 ≤ x) && decide (x ≤ (p.s.length : Int)))
def lvR (p : Pl) (x : Int) : List Int := if lvG p x then liv p.n.toNat p.s p.o x.toNat else []
theorem lvR_true {p : Pl} {N k : Nat} (h : lvG p (k : Int) = true) (hN : p.n = N) : lvR p (k : Int) = liv N p.s p.o k := by
  have : p.n.toNat = N := by omega
  unfold lvR
  rw [if_pos h, this, Int.toNat_natCast]
theorem lvR_false {p : Pl} {x : Int} (h : lvG p x = false) : lvR p x = [] := by unfold lvR; rw [if_neg (by rw [h]; decide)]
theorem lvR_le (p : Pl) (x : Int) : (lvR p x).length ≤ 1000 := by
  cases h : lvG p x with
  | false => rw [lvR_false h]; simp
  | true =>
    unfold lvG at h
    rw [Bool.and_eq_true, Bool.and_eq_true, decide_eq_true_eq, decide_eq_true_eq] at h
    obtain ⟨hg, h0, h1⟩ := h
    obtain ⟨N, hN, _, n6, h40, _⟩ := good_facts hg
    unfold lvR
    split
    · have := livK_le p.s p.o x.toNat (p.n.toNat + x.toNat)
      unfold liv
      omega
    · simp


set_option maxRecDepth 100000 in
set_option maxHeartbeats 2000000 in
theorem implLive_any (B : Nat) (A1 A2 : Option Addr) (c1 c2 : Nat) (p : Pl) (x : Int) (w : World) (hB : B ≤ w.heap.size) (hls : p.s.length ≤ 2000000) (hlo : p.o.length ≤ 2000000) (_hcap : p.s.length ≤ c1) (hr : RdP w B A1 A2 p) :
    Calls Try.prog 79 #[.agg #[.int .i64 p.n, .slice A1 p.s.length c1, .slice A2 p.o.length c2], .int .i64 x] w fun e w' =>
      ∃ A c, e = .returned (.tuple #[.slice A (lvR p x).length c, .bool (lvG p x)]) ∧ OwI w' w.heap.size (.slice A (lvR p x).length c) (lvR p x) ∧ Below w.heap.size w w' := by
  have H := Lib.hid hr
  clear hr
  go_enter Try.func79, Try.ntmps79
  go_wp2_with fail
  go_at_call 81
  generalize hw1 : World.alloc w _ = w1
  obtain ⟨x0, x1, x2, xs, xb⟩ := box3 hw1
  clear hw1
  refine (withValues_any B A1 A2 c1 c2 p w1 (by omega) hls hlo (H.out.below' xb hB)).mono ?_
  rintro e w2 ⟨hb2, hpost⟩
  have HB2 := Lib.hid (xb.trans (hb2.mono (show w.heap.size ≤ w1.heap.size by omega)))
  have y1 := (hb2.cell (p := ⟨w.heap.size, 1, none⟩) (by simp only []; omega)).trans x1
  have hs2 : w.heap.size + 1 ≤ w2.heap.size := by have := hb2.size; omega
  clear x0 x1 x2 hb2
  rw [valsI_eq] at hpost
  by_cases hg : good p = true
  · rw [if_pos hg] at hpost
    simp only at hpost
    obtain ⟨A, c, rfl, _⟩ := hpost
    obtain ⟨N, hN, n1, n6, hs40, ho6, hok, _, _⟩ := good_facts hg
    have hn' : p.n.toNat = N := by omega
    have hel := exps_length N p.s
    obtain ⟨R, hR⟩ : ∃ R, N + p.s.length = R := ⟨_, rfl⟩
    rw [hn', List.length_map, hel, hR, hN]
    have hR46 : R ≤ 46 := by omega
    have HN := Lib.hid hN
    have HG := Lib.hid hg
    have HR := Lib.hid hR
    clear hn' hN hg hel hR xs xb hok
    by_cases h0 : x < 0
    · have hcr : lvG p x = false := by unfold lvG; rw [decide_eq_false (show ¬ 0 ≤ x by omega)]; simp
      have EA := Lib.hid (lvR_false hcr)
      have EB := Lib.hid hcr
      clear hcr
      go_wp2
      go_ret2
      exact ⟨none, 0, by rw [EA.out, EB.out]; rfl, by rw [EA.out]; exact OwI.nil _ _, HB2.out.alloc HB2.out.size _⟩
    · by_cases h1 : (p.s.length : Int) < x
      · have Y1 := cell_kept y1 (.cells #[.int .i64 N, .slice A1 p.s.length c1, .slice A2 p.o.length c2, .slice A R c] 98)
        have hcr : lvG p x = false := by unfold lvG; rw [decide_eq_false (show ¬ x ≤ (p.s.length : Int) by omega)]; simp
        have EA := Lib.hid (lvR_false hcr)
        have EB := Lib.hid hcr
        clear hcr
        go_wp2
        go_ret2
        exact ⟨none, 0, by rw [EA.out, EB.out]; rfl, by rw [EA.out]; exact OwI.nil _ _, HB2.out.alloc HB2.out.size _⟩
      · obtain ⟨k, rfl⟩ : ∃ k : Nat, x = (k : Int) := ⟨x.toNat, by omega⟩
        have hcr : lvG p (k : Int) = true := by unfold lvG; rw [HG.out, decide_eq_true (show (0 : Int) ≤ (k : Int) by omega), decide_eq_true (show (k : Int) ≤ (p.s.length : Int) by omega)]; rfl
        have EA := Lib.hid (lvR_true hcr HN.out)
        have EB := Lib.hid hcr
        have LA := Lib.hid (fun W hW hr => liveAt_any B N R k A1 A2 A c1 c2 c p W hs40 ho6 n6 HR.out.symm (by omega) hW hr)
        have Y1 := cell_kept y1 (.cells #[.int .i64 N, .slice A1 p.s.length c1, .slice A2 p.o.length c2, .slice A R c] 98)
        have i0 : ¬ (k : Int) < 0 := h0
        have i1 : ¬ (p.s.length : Int) < (k : Int) := h1
        clear hcr h0 h1
        go_wp2_with fail
        go_at_call 112
        generalize hw3 : World.alloc w2 _ = w3
        obtain ⟨_, xs, xb⟩ := box4v hw3
        clear hw3
        have HB3 := Lib.hid (HB2.out.trans (xb.mono (by omega)))
        refine (LA.out w3 (by omega) (H.out.below' HB3.out hB)).mono ?_
        rintro e w4 ⟨A3, c3, rfl, hown3, hb4⟩
        have HO := Lib.hid (hown3.base (show w.heap.size ≤ w3.heap.size by omega))
        have HB4 := Lib.hid (HB3.out.trans (hb4.mono (show w.heap.size ≤ w3.heap.size by omega)))
        clear hb4 xs xb hown3
        go_wp2
        go_ret2
        exact ⟨A3, c3, by rw [EA.out, EB.out]; rfl, by rw [EA.out]; exact HO.out, HB4.out⟩
  · rw [if_neg hg] at hpost
    simp only at hpost
    subst hpost
    have hg' : good p = false := by simpa using hg
    have hcr : lvG p x = false := by unfold lvG; rw [hg']; rfl
    have EA := Lib.hid (lvR_false hcr)
    have EB := Lib.hid hcr
    clear hg hg' hcr
    go_wp2
    go_ret2
    exact ⟨none, 0, by rw [EA.out, EB.out]; rfl, by rw [EA.out]; exact OwI.nil _ _, HB2.out.alloc HB2.out.size _⟩
end Go.Proofs.Ytbbjgcagkmlngaa
/- The pressure of a plan, and the registers that its values get, as data. -/
namespace Go.Proofs.Ytbbjgcagkmlngaa
open Go.RowKit

/-- The pressure of the first k steps. -/
def prK (N : Nat) (s : List (Int × Int)) (o : List Int) : Nat → Int
  | 0 => (N : Int)
  | k + 1 => mostI (prK N s o k) ((putI (liv N s o (k + 1)) ((N + k : Nat) : Int)).length : Int)
theorem prK_mono {N : Nat} {s : List (Int × Int)} {o : List Int} {k : Nat} : ∀ j, k ≤ j → prK N s o k ≤ prK N s o j := by
  intro j h
  obtain ⟨d, rfl⟩ : ∃ d, j = k + d := ⟨j - k, by omega⟩
  clear h
  induction d with
  | zero => exact Int.le_refl _
  | succ d ih =>
    rw [show k + (d + 1) = (k + d) + 1 by omega]
    simp only [prK]
    unfold mostI
    split <;> omega
theorem prK_ge {N : Nat} {s : List (Int × Int)} {o : List Int} {k j : Nat} (h : k < j) : ((putI (liv N s o (k + 1)) ((N + k : Nat) : Int)).length : Int) ≤ prK N s o j := by
  refine Int.le_trans ?_ (prK_mono (k := k + 1) j (by omega))
  simp only [prK]
  unfold mostI
  split <;> omega
theorem prK_bd (N : Nat) (s : List (Int × Int)) (o : List Int) : ∀ k, (N : Int) ≤ prK N s o k ∧ prK N s o k ≤ N + k + 1 := by
  intro k
  induction k with
  | zero => simp only [prK]; omega
  | succ k ih =>
    have h1 := putI_le (liv N s o (k + 1)) ((N + k : Nat) : Int)
    have h2 := livK_le s o (k + 1) (N + (k + 1))
    have h3 : (liv N s o (k + 1)).length = (livK s o (k + 1) (N + (k + 1))).length := rfl
    simp only [prK]
    unfold mostI
    split <;> omega
theorem nodup_le {a : List Int} : ∀ {b : List Int}, a.Nodup → (∀ x ∈ a, x ∈ b) → a.length ≤ b.length := by
  induction a with
  | nil => intro b _ _; exact Nat.zero_le _
  | cons x a ih =>
    intro b hn hs
    obtain ⟨h1, h2⟩ := List.nodup_cons.1 hn
    have hx := hs x List.mem_cons_self
    have := ih (b := b.erase x) h2 fun y hy => (List.mem_erase_of_ne (fun e => h1 (by subst e; exact hy))).2 (hs y (List.mem_cons_of_mem _ hy))
    rw [List.length_erase_of_mem hx] at this
    have := List.length_pos_of_mem hx
    simp only [List.length_cons]
    omega
/-- Registers of which the first N are full. -/
def ownR (m N : Nat) : List Int := (List.range m).map fun i : Nat => if i < N then (i : Int) else -1
/-- Only values of a list stay. -/
def kpR (l vals : List Int) : List Int := l.map fun v => if hasI vals v then v else -1
/-- The registers behind the first k steps. -/
def alH (m N : Nat) (s : List (Int × Int)) (o : List Int) : Nat → List Int
  | 0 => ownR m N
  | k + 1 => (kpR (alH m N s o k) (liv N s o (k + 1))).set (plc (kpR (alH m N s o k) (liv N s o (k + 1))) (-1) 0).toNat (((N + k : Nat) : Int))
def alO (m N : Nat) (s : List (Int × Int)) (o : List Int) : Nat → List (Int × Int × Int)
  | 0 => []
  | k + 1 => alO m N s o k ++ [(plc (kpR (alH m N s o k) (liv N s o (k + 1))) (-1) 0, plc (alH m N s o k) (s.getD k (0, 0)).1 0, plc (alH m N s o k) (s.getD k (0, 0)).2 0)]
theorem ownR_len (m N : Nat) : (ownR m N).length = m := by simp [ownR]
theorem kpR_len (l vals : List Int) : (kpR l vals).length = l.length := by simp [kpR]
theorem alH_len (m N : Nat) (s : List (Int × Int)) (o : List Int) : ∀ k, (alH m N s o k).length = m := by
  intro k
  induction k with
  | zero => exact ownR_len _ _
  | succ k ih => simp only [alH]; rw [List.length_set, kpR_len, ih]
theorem alO_len (m N : Nat) (s : List (Int × Int)) (o : List Int) : ∀ k, (alO m N s o k).length = k := by
  intro k
  induction k with
  | zero => rfl
  | succ k ih => simp only [alO]; rw [List.length_append, ih]; rfl
theorem kpR_at {l vals : List Int} {j : Nat} (h : j < l.length) : (kpR l vals)[j]'(by rw [kpR_len]; exact h) = if hasI vals l[j] then l[j] else -1 := by simp [kpR]
theorem plc_has {l : List Int} {n : Int} {j : Nat} (h : j < l.length) (he : l[j] = n) : 0 ≤ plc l n 0 ∧ plc l n 0 ≤ j := by
  have hh : hasI l n = true := by unfold hasI; rw [List.contains_iff_mem]; exact he ▸ List.getElem_mem h
  refine ⟨by simpa using plc_nonneg hh 0, ?_⟩
  have e : l = l.take (j + 1) ++ l.drop (j + 1) := (List.take_append_drop _ _).symm
  have h1 := plc_app (l.take (j + 1)) (l.drop (j + 1)) n 0
  rw [← e] at h1
  have h2 : hasI (l.take (j + 1)) n = true := by
    unfold hasI
    rw [List.contains_iff_mem, List.take_succ_eq_append_getElem h]
    exact List.mem_append_right _ (by simp [he])
  rw [if_pos h2] at h1
  have h3 := plc_bd (l.take (j + 1)) n 0
  have h4 : (l.take (j + 1)).length = j + 1 := by simp; omega
  rw [h1]
  have h5 := plc_nonneg h2 0
  rcases Int.lt_or_le (j : Int) (plc (l.take (j + 1)) n 0) with h6 | h6
  · exfalso
    rcases Classical.em (hasI (l.take j) n = true) with h7 | h7
    · have h8 := plc_app (l.take j) [l[j]] n 0
      rw [← List.take_succ_eq_append_getElem h, if_pos h7] at h8
      have h9 := plc_bd (l.take j) n 0
      have : (l.take j).length = j := by simp; omega
      omega
    · have h8 := plc_hit (l := l.take (j + 1)) (n := n) (k := j) (by omega) (by rw [List.take_take, Nat.min_eq_left (by omega)]; simpa using h7) (by simp [he])
      omega
  · exact h6
/-- Where a number stands in the first m, it stands in all. -/
theorem plc_take {l : List Int} {n : Int} {m : Nat} (h : hasI (l.take m) n = true ∨ hasI (l.drop m) n = false) : plc (l.take m) n 0 = plc l n 0 := by
  have h1 := plc_app (l.take m) (l.drop m) n 0
  rw [List.take_append_drop] at h1
  rw [h1]
  cases h2 : hasI (l.take m) n with
  | true => rw [if_pos rfl]
  | false =>
    rw [if_neg (by decide)]
    rcases h with h | h
    · rw [h2] at h; cases h
    · rw [plc_none h, plc_none h2]
/-- The registers: what is in them is there once, has been made, and stands in the first R. -/
structure AlI (N R k : Nat) (h : List Int) : Prop where
  len : h.length = 46
  bd : ∀ j (hj : j < h.length), -1 ≤ h[j] ∧ h[j] < ((N + k : Nat) : Int)
  far : ∀ j (hj : j < h.length), R ≤ j → h[j] = -1
  one : ∀ i j (hi : i < h.length) (hj : j < h.length), h[i] = h[j] → 0 ≤ h[i] → i = j
theorem AlI.kp {N R k : Nat} {h : List Int} (H : AlI N R k h) (vals : List Int) : AlI N R k (kpR h vals) where
  len := by rw [kpR_len, H.len]
  bd j hj := by
    rw [kpR_len] at hj
    rw [kpR_at hj]
    have := H.bd j hj
    split <;> omega
  far j hj hR := by
    rw [kpR_len] at hj
    rw [kpR_at hj, H.far j hj hR]
    split <;> rfl
  one i j hi hj he h0 := by
    rw [kpR_len] at hi hj
    rw [kpR_at hi] at he h0
    rw [kpR_at hj] at he
    split at h0
    · rename_i h1
      rw [if_pos h1] at he
      split at he
      · exact H.one i j hi hj he h0
      · omega
    · omega
/-- There is an empty one. -/
theorem AlI.empty {N R k : Nat} {h vals : List Int} (H : AlI N R k h) (hR : R ≤ 46) (hp : ((putI vals ((N + k : Nat) : Int)).length : Int) ≤ R) : ∃ j, ∃ hj : j < (kpR h vals).length, j < R ∧ (kpR h vals)[j] = -1 := by
  have K := H.kp vals
  apply Classical.byContradiction
  intro hno
  have hfull : ∀ j (hj : j < (kpR h vals).length), j < R → (kpR h vals)[j] ≠ -1 := fun j hj h1 h2 => hno ⟨j, hj, h1, h2⟩
  have hl : ((kpR h vals).take R).length = R := by rw [List.length_take, K.len]; omega
  have hnd : (((N + k : Nat) : Int) :: (kpR h vals).take R).Nodup := by
    rw [List.nodup_cons]
    constructor
    · intro hm
      obtain ⟨j, hj, e⟩ := List.mem_iff_getElem.1 hm
      rw [List.getElem_take] at e
      have := (K.bd j (by rw [List.length_take] at hj; omega)).2
      omega
    · rw [List.nodup_iff_pairwise_ne, List.pairwise_iff_getElem]
      intro i j hi hj hij e
      rw [List.length_take] at hi hj
      rw [List.getElem_take, List.getElem_take] at e
      have h1 := (K.bd i (by omega)).1
      have h2 := hfull i (by omega) (by omega)
      have := K.one i j (by omega) (by omega) e (by omega)
      omega
  have := nodup_le (b := putI vals ((N + k : Nat) : Int)) hnd fun x hx => by
    rw [mem_putI_iff]
    rcases List.mem_cons.1 hx with h1 | h1
    · exact .inl h1
    · right
      obtain ⟨j, hj, rfl⟩ := List.mem_iff_getElem.1 h1
      rw [List.length_take] at hj
      have hj' : j < h.length := by rw [kpR_len] at hj; omega
      have h2 := hfull j (by omega) (by omega)
      rw [List.getElem_take, kpR_at hj'] at *
      split at h2
      · rename_i h3
        rw [if_pos h3]
        unfold hasI at h3
        exact List.contains_iff_mem.1 h3
      · exact absurd rfl h2
  rw [List.length_cons, hl] at this
  omega
theorem AlI.set {N R k : Nat} {h : List Int} (H : AlI N R k h) {j : Nat} (hj : j < R) : AlI N R (k + 1) (h.set j (((N + k : Nat) : Int))) where
  len := by rw [List.length_set, H.len]
  bd i hi := by
    rw [List.length_set] at hi
    rw [List.getElem_set]
    have := H.bd i hi
    split <;> omega
  far i hi h1 := by
    rw [List.length_set] at hi
    rw [List.getElem_set, if_neg (by omega)]
    exact H.far i hi h1
  one a b ha hb he h0 := by
    rw [List.length_set] at ha hb
    rw [List.getElem_set] at he h0
    rw [List.getElem_set] at he
    have h1 := H.bd a ha
    have h2 := H.bd b hb
    split at he
    · split at he
      · omega
      · exfalso; omega
    · rename_i h3
      rw [if_neg h3] at h0
      split at he
      · exfalso; omega
      · exact H.one a b ha hb he h0
theorem AlI.start {N R : Nat} (h : N ≤ R) : AlI N R 0 (ownR 46 N) where
  len := ownR_len _ _
  bd j hj := by simp only [ownR, List.getElem_map, List.getElem_range]; split <;> omega
  far j hj h1 := by simp only [ownR, List.getElem_map, List.getElem_range]; rw [if_neg (by omega)]
  one a b ha hb he h0 := by
    simp only [ownR, List.getElem_map, List.getElem_range] at he h0
    split at he <;> split at he <;> simp_all <;> omega
theorem AlI.take {N R k : Nat} {h : List Int} (H : AlI N R k h) {v : Int} (hv : 0 ≤ v) : plc (h.take R) v 0 = plc h v 0 := by
  refine plc_take (.inr ?_)
  cases hd : hasI (h.drop R) v with
  | false => rfl
  | true =>
    unfold hasI at hd
    rw [List.contains_iff_mem] at hd
    obtain ⟨q, hq, e⟩ := List.mem_iff_getElem.1 hd
    rw [List.length_drop] at hq
    rw [List.getElem_drop] at e
    have := H.far (R + q) (by omega) (by omega)
    omega
/-- The register that is taken next. -/
theorem AlI.next {N R k : Nat} {h vals : List Int} (H : AlI N R k h) (hR : R ≤ 46) (hp : ((putI vals ((N + k : Nat) : Int)).length : Int) ≤ R) : 0 ≤ plc (kpR h vals) (-1) 0 ∧ plc (kpR h vals) (-1) 0 < R := by
  obtain ⟨j, hj, hjR, he⟩ := H.empty hR hp
  have := plc_has hj he
  omega
/-- The registers, with R enough of them. -/
theorem alH_ok {N R : Nat} {s : List (Int × Int)} {o : List Int} (hR : R ≤ 46) (hN : N ≤ R) (hp : ∀ k, k < s.length → ((putI (liv N s o (k + 1)) ((N + k : Nat) : Int)).length : Int) ≤ R) (hs0 : ∀ k, k < s.length → 0 ≤ (s.getD k (0, 0)).1 ∧ 0 ≤ (s.getD k (0, 0)).2) : ∀ k, k ≤ s.length →
    AlI N R k (alH 46 N s o k) ∧ alH R N s o k = (alH 46 N s o k).take R ∧ alO R N s o k = alO 46 N s o k := by
  have tk : ∀ (l vals : List Int) m, (kpR l vals).take m = kpR (l.take m) vals := fun l vals m => by unfold kpR; rw [List.map_take]
  intro k
  induction k with
  | zero =>
    intro _
    refine ⟨AlI.start hN, ?_, rfl⟩
    show ownR R N = (ownR 46 N).take R
    unfold ownR
    rw [← List.map_take, List.take_range, Nat.min_eq_left hR]
  | succ k ih =>
    intro hk
    obtain ⟨H, h1, h2⟩ := ih (by omega)
    obtain ⟨j, hj, hjR, he⟩ := H.empty hR (hp k (by omega))
    have hpl := plc_has hj he
    have e1 : plc (kpR (alH R N s o k) (liv N s o (k + 1))) (-1) 0 = plc (kpR (alH 46 N s o k) (liv N s o (k + 1))) (-1) 0 := by
      rw [h1, ← tk]
      refine plc_take (.inl ?_)
      unfold hasI
      rw [List.contains_iff_mem]
      exact List.mem_iff_getElem.2 ⟨j, by rw [List.length_take]; omega, by rw [List.getElem_take]; exact he⟩
    refine ⟨?_, ?_, ?_⟩
    · simp only [alH]
      exact AlI.set (H.kp _) (by omega)
    · simp only [alH]
      rw [e1, h1, ← tk, ← List.take_set]
    · simp only [alO]
      rw [e1, h2]
      have hs := hs0 k (by omega)
      rw [h1, H.take hs.1, H.take hs.2]
end Go.Proofs.Ytbbjgcagkmlngaa
/- NeededAfter and PressureOf, of the model and of the program. -/
namespace Go.Proofs.Ytbbjgcagkmlngaa
open Go.RowKit

def prR (p : Pl) : Int := if good p then prK p.n.toNat p.s p.o p.s.length else 0
theorem prR_good {p : Pl} {N : Nat} (h : good p = true) (hN : p.n = N) : prR p = prK N p.s p.o p.s.length := by
  have : p.n.toNat = N := by omega
  unfold prR
  rw [if_pos h, this]
theorem prR_bad {p : Pl} (h : good p = false) : prR p = 0 := by unfold prR; rw [if_neg (by rw [h]; decide)]
theorem ups_take {n k : Nat} (h : k ≤ n) : (ups n).take k = ups k := by
  unfold ups
  rw [← List.map_take, List.take_range, Nat.min_eq_left h]
theorem liv_asc (N : Nat) (s : List (Int × Int)) (o : List Int) (k : Nat) : Asc (liv N s o k) := livK_asc s o k _

set_option maxRecDepth 100000 in
set_option maxHeartbeats 4000000 in
theorem specNeeded_any (B : Nat) (A1 A2 : Option Addr) (c1 c2 : Nat) (p : Pl) (x : Int) (w : World) (hB : B ≤ w.heap.size) (hls : p.s.length ≤ 1048576) (hlo : p.o.length ≤ 1048576) (_hcap : p.s.length ≤ c1) (hr : RdP w B A1 A2 p) :
    Calls Try.prog 33 #[.agg #[.int .i64 p.n, .slice A1 p.s.length c1, .slice A2 p.o.length c2], .int .i64 x] w fun e w' =>
      ∃ A c, e = .returned (.tuple #[.slice A (lvR p x).length c, .bool (lvG p x)]) ∧ OwI w' w.heap.size (.slice A (lvR p x).length c) (lvR p x) ∧ Below w.heap.size w w' := by
  have H := Lib.hid hr
  clear hr
  obtain ⟨gd, hgd⟩ : ∃ x, good p = x := ⟨_, rfl⟩
  have HG := Lib.hid hgd
  go_enter Try.func33, Try.ntmps33
  go_wp2_with fail
  go_at_call 74
  generalize hw1 : World.alloc w _ = w1
  obtain ⟨⟨x0, x1, x2⟩, xs, xb⟩ := box3w hw1
  clear hw1
  have hC := plGood_any w.heap.size A1 A2 c1 c2 p w1 (by omega) (by omega) (by omega) ((H.out.below' xb hB).more hB)
  rw [hgd] at hC
  refine hC.mono ?_
  rintro e w2 ⟨rfl, hb2⟩
  clear hC hgd
  have y0 := (hb2.cell (p := ⟨w.heap.size, 0, none⟩) (by simp only []; omega)).trans x0
  have y1 := (hb2.cell (p := ⟨w.heap.size, 1, none⟩) (by simp only []; omega)).trans x1
  have y2 := (hb2.cell (p := ⟨w.heap.size, 2, none⟩) (by simp only []; omega)).trans x2
  have HB2 := Lib.hid (xb.trans (hb2.mono (show w.heap.size ≤ w1.heap.size by omega)))
  have hs2 : w.heap.size + 1 ≤ w2.heap.size := by have := hb2.size; omega
  clear x0 x1 x2 xs xb hb2
  cases gd with
  | false =>
    have hcr : lvG p x = false := by unfold lvG; rw [HG.out]; rfl
    have EA := Lib.hid (lvR_false hcr)
    have EB := Lib.hid hcr
    clear hcr
    go_wp2
    go_ret2
    exact ⟨none, 0, by rw [EA.out, EB.out]; rfl, by rw [EA.out]; exact OwI.nil _ _, HB2.out⟩
  | true =>
    obtain ⟨N, hN, n1, n6, hs40, ho6, hok, hout, _⟩ := good_facts HG.out
    obtain ⟨t, ht⟩ : ∃ t, inB x 0 (p.s.length : Int) = t := ⟨_, rfl⟩
    have hcr : lvG p x = t := by
      unfold lvG
      rw [HG.out, ← ht]
      unfold inB
      rfl
    have HI := fun W => l1In_any x 0 (p.s.length : Int) W
    rw [ht] at HI
    have HI := Lib.hid HI
    have EB := Lib.hid hcr
    cases t with
    | false =>
      have EA := Lib.hid (lvR_false EB.out)
      clear hok hout hN hcr ht
      go_wp2_with fail
      go_at_call 75
      refine (HI.out w2).mono ?_
      rintro e w3 ⟨rfl, rfl⟩
      go_wp2
      go_ret2
      exact ⟨none, 0, by rw [EA.out, EB.out]; rfl, by rw [EA.out]; exact OwI.nil _ _, HB2.out⟩
    | true =>
      have hx : 0 ≤ x ∧ x ≤ (p.s.length : Int) := by
        unfold inB at ht
        simpa using ht
      obtain ⟨k, rfl⟩ : ∃ k : Nat, x = (k : Int) := ⟨x.toNat, by omega⟩
      have EA := Lib.hid (lvR_true EB.out hN)
      have LE := Lib.hid (ne_liv (N := N) (s := p.s) (o := p.o) (k := k) (by omega))
      have UP := Lib.hid (plUpTo_any k)
      have RN := Lib.hid (fun AD cd W hW hrW hrd => reNeeded_any W.heap.size N A1 A2 c1 c2 p AD cd (ups k) W hN n6 hs40 ho6 (by rw [ups_length]; omega) hW hrW hrd)
      have FS := Lib.hid (show ∀ x, Below w2.heap.size w2 x → x.cell? ⟨w.heap.size, 0, none⟩ = some (.int .i64 p.n) ∧ x.cell? ⟨w.heap.size, 1, none⟩ = some (.slice A1 p.s.length c1) ∧ x.cell? ⟨w.heap.size, 2, none⟩ = some (.slice A2 p.o.length c2) from fun x hx =>
        ⟨(hx.cell (p := ⟨w.heap.size, 0, none⟩) (by simp only []; omega)).trans y0, (hx.cell (p := ⟨w.heap.size, 1, none⟩) (by simp only []; omega)).trans y1, (hx.cell (p := ⟨w.heap.size, 2, none⟩) (by simp only []; omega)).trans y2⟩)
      have S0 := Lib.hid (show Below w2.heap.size w2 w2.drew from (Below.refl _ _).drew)
      have hk1000 : k ≤ 1000 := by omega
      clear hok hout hN hcr ht hx
      go_wp2_with fail
      go_at_call 75
      refine (HI.out w2).mono ?_
      rintro e w3 ⟨rfl, rfl⟩
      go_wp2
      refine wp_region_T (fun x : World => Below w2.heap.size w2 x) [0, 1, 4, 5] [0] (.lp 1 (.ls 0 (.hv 2 (.hv 3 (.lp 4 (.lp 5 (.done))))))) (by kernel_rfl) (by kernel_rfl) ?_
      (repeat (refine T_lp rfl (fun K hK => ?_); go_simp; refine hK _ ?_; clear hK K))
      refine T_ls1 (v := .agg #[.int .i64 p.n, .slice A1 p.s.length c1, .slice A2 p.o.length c2]) rfl rfl S0.out (fun x hx => (by obtain ⟨h0, h1, h2⟩ := FS.out x hx; go_simp)) (fun K hK => ?_)
      (go_simp; refine hK _ ?_; clear hK K)
      refine T_hvS rfl (fun K hK => ?_)
      go_simp
      go_at_call 77
      refine (UP.out w2.drew hk1000).mono ?_
      rintro e w5 ⟨AD, cd, rfl, hu, hb5⟩
      have S5 := Lib.hid (S0.out.trans (hb5.mono (by simp)))
      have HU := Lib.hid hu
      go_simp
      refine hK _ _ S5.out ?_
      clear hK K hu hb5
      refine T_hvS rfl (fun K hK => ?_)
      go_simp
      go_at_call 76
      have hu' : OwI w5 w2.drew.heap.size (.slice AD (ups k).length cd) (ups k) := by rw [ups_length]; exact HU.out
      have hrn := RN.out AD cd w5 (Nat.le_refl _) ((H.out.below' (HB2.out.trans (S5.out.mono HB2.out.size)) hB).more (by have := HB2.out.size; have := S5.out.size; omega)) hu'.rd
      clear hu'
      rw [ups_length, LE.out] at hrn
      refine hrn.mono ?_
      rintro e w6 ⟨A6, c6, rfl, h6, hb6⟩
      have S6 := Lib.hid (S5.out.trans (hb6.mono S5.out.size))
      have O6 := Lib.hid (OwI.base h6 (show w.heap.size ≤ w5.heap.size by have := S5.out.size; omega))
      have HB6 := Lib.hid (HB2.out.trans (S6.out.mono HB2.out.size))
      clear hrn h6 hb6
      go_simp
      refine hK _ _ S6.out ?_
      clear hK K
      (repeat (first | (refine T_lp rfl (fun K hK => ?_); go_simp; refine hK _ ?_; clear hK K) | (refine T_ls rfl rfl (fun K hK => ?_); go_simp; refine hK _ ?_; clear hK K)))
      refine T_done ?_
      go_wp2
      go_ret2
      exact ⟨A6, c6, by rw [EA.out, EB.out]; rfl, by rw [EA.out]; exact O6.out, HB6.out⟩

set_option maxRecDepth 100000 in
set_option maxHeartbeats 2000000 in
theorem implNeeded_any (B : Nat) (A1 A2 : Option Addr) (c1 c2 : Nat) (p : Pl) (x : Int) (w : World) (hB : B ≤ w.heap.size) (hls : p.s.length ≤ 1048576) (hlo : p.o.length ≤ 1048576) (hcap : p.s.length ≤ c1) (hr : RdP w B A1 A2 p) :
    Calls Try.prog 35 #[.agg #[.int .i64 p.n, .slice A1 p.s.length c1, .slice A2 p.o.length c2], .int .i64 x] w fun e w' =>
      ∃ A c, e = .returned (.tuple #[.slice A (lvR p x).length c, .bool (lvG p x)]) ∧ OwI w' w.heap.size (.slice A (lvR p x).length c) (lvR p x) ∧ Below w.heap.size w w' := by
  have H := Lib.hid hr
  clear hr
  go_enter Try.func35, Try.ntmps35
  go_wp2_with fail
  go_at_call 79
  generalize hw1 : World.alloc w _ = w1
  obtain ⟨_, xs, xb⟩ := box3w hw1
  clear hw1
  refine (implLive_any B A1 A2 c1 c2 p x w1 (by omega) (by omega) (by omega) hcap (H.out.below' xb hB)).mono ?_
  rintro e w2 ⟨A, c, rfl, hown, hb2⟩
  have OW := Lib.hid (OwI.base hown (show w.heap.size ≤ w1.heap.size by omega))
  have HB := Lib.hid (xb.trans (hb2.mono (by omega)))
  clear hown hb2 xb
  go_wp2
  go_ret2
  exact ⟨A, c, rfl, OW.out, HB.out⟩

set_option maxRecDepth 100000 in
set_option maxHeartbeats 8000000 in
theorem rePressure_any (B N : Nat) (A1 A2 : Option Addr) (c1 c2 : Nat) (p : Pl) (AD : Option Addr) (cd : Nat) (w : World) (hpn : p.n = N) (h6 : N ≤ 6) (hs40 : p.s.length ≤ 40) (ho6 : p.o.length ≤ 6) (hcd : p.s.length ≤ cd) (hB : B ≤ w.heap.size) (hr : RdP w B A1 A2 p) (hrd : Rd w B 1 AD p.s.length ((ups p.s.length).map I)) :
    Calls Try.prog 80 #[.agg #[.int .i64 p.n, .slice A1 p.s.length c1, .slice A2 p.o.length c2], .slice AD p.s.length cd] w fun e w' =>
      e = .returned (.int .i64 (prK N p.s p.o p.s.length)) ∧ Below w.heap.size w w' := by
  have H := Lib.hid hr
  have HD := Lib.hid (show Rd w B 1 AD (ups p.s.length).length ((ups p.s.length).map I) by rw [ups_length]; exact hrd)
  have RN := Lib.hid (fun (k : Nat) W (hk : k ≤ p.s.length) hW hrW hrd => reNeeded_any W.heap.size N A1 A2 c1 c2 p AD cd (ups k) W hpn h6 hs40 ho6 (by rw [ups_length]; omega) hW hrW hrd)
  have LE := Lib.hid (fun (k : Nat) (hk : k ≤ p.s.length) => ne_liv (N := N) (s := p.s) (o := p.o) (k := k) hk)
  clear hr hrd
  rw [hpn]
  have RN := Lib.hid (by have h := RN.out; rw [hpn] at h; exact h)
  clear hpn
  go_enter Try.func80, Try.ntmps80
  go_wp2
  generalize hw1 : World.alloc w _ = w1
  obtain ⟨⟨x0, x1, x2⟩, xs, xb⟩ := box3w hw1
  clear hw1
  have XB := Lib.hid xb
  clear xb
  go_loopw [5, 12] (fun mv iv wr => ∃ k : Nat, k ≤ p.s.length ∧ iv = .int .i64 k ∧ mv = .int .i64 (prK N p.s p.o k) ∧ Below w1.heap.size w1 wr) (fun _ i _ => p.s.length - (intOf i).toNat)
  case atStart => exact ⟨0, by omega, rfl, rfl, Below.refl _ _⟩
  case round =>
    obtain ⟨k, hk, rfl, rfl, hbel⟩ := hrel
    have hsz := hbel.size
    have HBW := Lib.hid (XB.out.trans (hbel.mono (by omega)))
    have BEL := Lib.hid hbel
    by_cases hlt : k < p.s.length
    · have iqk : (k : Int) < (p.s.length : Int) := by omega
      have ikc : (k : Int) + 1 ≤ (cd : Int) := by omega
      obtain ⟨b, off, rfl, hb, hc⟩ := (HD.out.below' HBW.out hB).int (show k < (ups p.s.length).length by rw [ups_length]; exact hlt)
      have hek : (ups p.s.length)[k]'(by rw [ups_length]; exact hlt) = (k : Int) := by simp [ups]
      rw [hek] at hc
      have hlt1 : k + 1 ≤ p.s.length := hlt
      have hwk1 : IntKind.i64.wrap ((k : Int) + 1) = ((k + 1 : Nat) : Int) := by rw [IntWalk.i64_in _ (by omega)]; omega
      have ik1c : ((k + 1 : Nat) : Int) ≤ (cd : Int) := by omega
      have hpk := prK_bd N p.s p.o k
      have RN1 := RN.out (k + 1)
      have LE1 := LE.out (k + 1) hlt1
      have SUC := Lib.hid (show prK N p.s p.o (k + 1) = mostI (prK N p.s p.o k) ((putI (liv N p.s p.o (k + 1)) ((N + k : Nat) : Int)).length : Int) from rfl)
      rw [ups_length, LE1] at RN1
      have hll := livK_le p.s p.o (k + 1) (N + (k + 1))
      have hll : (liv N p.s p.o (k + 1)).length ≤ 1000 := by
        have e : liv N p.s p.o (k + 1) = livK p.s p.o (k + 1) (N + (k + 1)) := rfl
        rw [e]; omega
      have PU := Lib.hid (fun B0 A c W hW ho => l1PutO_any B0 A c (liv N p.s p.o (k + 1)) ((N + k : Nat) : Int) W hll (liv_asc N p.s p.o (k + 1)) hW ho)
      have hwk : IntKind.i64.wrap ((N : Int) + (k : Int)) = ((N + k : Nat) : Int) := by rw [IntWalk.i64_in _ (by omega)]; omega
      have RN1 := Lib.hid RN1
      have z0 := (hbel.cell (p := ⟨w.heap.size, 0, none⟩) (by simp only []; omega)).trans x0
      have z1 := (hbel.cell (p := ⟨w.heap.size, 1, none⟩) (by simp only []; omega)).trans x1
      have z2 := (hbel.cell (p := ⟨w.heap.size, 2, none⟩) (by simp only []; omega)).trans x2
      have FS := Lib.hid (show ∀ x, Below wr.heap.size wr x → x.cell? ⟨w.heap.size, 0, none⟩ = some (.int .i64 N) ∧ x.cell? ⟨w.heap.size, 1, none⟩ = some (.slice A1 p.s.length c1) ∧ x.cell? ⟨w.heap.size, 2, none⟩ = some (.slice A2 p.o.length c2) from fun x hx =>
        ⟨(hx.cell (p := ⟨w.heap.size, 0, none⟩) (by simp only []; omega)).trans z0, (hx.cell (p := ⟨w.heap.size, 1, none⟩) (by simp only []; omega)).trans z1, (hx.cell (p := ⟨w.heap.size, 2, none⟩) (by simp only []; omega)).trans z2⟩)
      have S0 := Lib.hid (show Below wr.heap.size wr wr.drew from (Below.refl _ _).drew)
      obtain ⟨m, hm⟩ : ∃ m, prK N p.s p.o k = m := ⟨_, rfl⟩
      have suc := SUC.out
      rw [hm] at suc hpk ⊢
      have SUC := Lib.hid suc
      obtain ⟨k1, hk1⟩ : ∃ k1, k + 1 = k1 := ⟨_, rfl⟩
      have suc := SUC.out
      have rn1 := RN1.out
      have pu := PU.out
      rw [hk1] at suc rn1 pu hwk1 ik1c hlt1
      have SUC := Lib.hid suc
      have RN1 := Lib.hid rn1
      have PU := Lib.hid pu
      have HK1 := Lib.hid hk1
      clear suc hm LE1 hek hbel z0 z1 z2 hll rn1 pu hk1 ikc
      go_wp2
      refine wp_region_T (fun x : World => Below wr.heap.size wr x) [0, 1, 2, 3, 4, 5, 7, 8, 9, 10, 12, 14] [1, 8] (.lp 0 (.lp 2 (.lp 3 (.lp 4 (.lp 5 (.lp 7 (.lp 9 (.ls 1 (.ls 8 (.lp 10 (.hv 6 (.hv 11 (.lp 12 (.hv 13 (.lp 14 (.done)))))))))))))))) (by kernel_rfl) (by kernel_rfl) ?_
      (repeat (refine T_lp rfl (fun K hK => ?_); go_simp; refine hK _ ?_; clear hK K))
      refine T_ls1 (v := .agg #[.int .i64 N, .slice A1 p.s.length c1, .slice A2 p.o.length c2]) rfl rfl S0.out (fun x hx => (by obtain ⟨h0, h1, h2⟩ := FS.out x hx; go_simp)) (fun K hK => ?_)
      (go_simp; refine hK _ ?_; clear hK K)
      refine T_ls1 (v := .int .i64 N) rfl rfl S0.out (fun x hx => (by obtain ⟨h0, h1, h2⟩ := FS.out x hx; go_simp)) (fun K hK => ?_)
      (go_simp; refine hK _ ?_; clear hK K)
      (repeat (refine T_lp rfl (fun K hK => ?_); go_simp; refine hK _ ?_; clear hK K))
      refine T_hvS rfl (fun K hK => ?_)
      go_simp
      go_at_call 76
      have hbw := HBW.out.trans (S0.out.mono HBW.out.size)
      have htk := ((HD.out.below' hbw hB).more (show B ≤ wr.drew.heap.size by have := hbw.size; omega)).take (n := k1) (by rw [ups_length]; omega)
      rw [ups_take hlt1] at htk
      refine (RN1.out wr.drew hlt1 (Nat.le_refl _) ((H.out.below' hbw hB).more (by have := hbw.size; omega)) htk).mono ?_
      rintro e w5 ⟨A5, c5, rfl, h5, hb5⟩
      have S5 := Lib.hid (S0.out.trans (hb5.mono (by simp)))
      have O5 := Lib.hid h5
      go_simp
      refine hK _ _ S5.out ?_
      clear hK K h5 hb5 hbw htk
      refine T_hvS rfl (fun K hK => ?_)
      go_simp
      go_at_call 114
      refine (PU.out wr.drew.heap.size A5 c5 w5 (by have := S5.out.size; simpa using this) O5.out).mono ?_
      rintro e w6 ⟨A6, c6, rfl, h6', hb6⟩
      have S6 := Lib.hid (S5.out.trans (hb6.mono S5.out.size))
      go_simp
      refine hK _ _ S6.out ?_
      clear hK K h6' hb6
      (repeat (refine T_lp rfl (fun K hK => ?_); go_simp; refine hK _ ?_; clear hK K))
      refine T_hvS rfl (fun K hK => ?_)
      go_simp
      go_at_call 113
      refine (l1Most_any _ _ _).mono ?_
      rintro e w7 ⟨rfl, rfl⟩
      go_simp
      refine hK _ _ S6.out ?_
      clear hK K
      (repeat (first | (refine T_lp rfl (fun K hK => ?_); go_simp; refine hK _ ?_; clear hK K) | (refine T_ls rfl rfl (fun K hK => ?_); go_simp; refine hK _ ?_; clear hK K)))
      refine T_done ?_
      go_wp2
      go_roundw
      case rel => exact ⟨k + 1, hlt, by rw [HK1.out], by rw [HK1.out, SUC.out]; push_cast; rfl, BEL.out.trans (S6.out.mono hsz)⟩
      case measure =>
        have := HK1.out
        simp [intOf]; omega
    · have hk' : k = p.s.length := by omega
      subst hk'
      go_wp2
      go_ret
      exact ⟨rfl, HBW.out⟩
end Go.Proofs.Ytbbjgcagkmlngaa
/- The pressure of a plan, by the program; PressureOf of both. -/
namespace Go.Proofs.Ytbbjgcagkmlngaa
open Go.RowKit

set_option maxRecDepth 100000 in
set_option maxHeartbeats 1000000 in
theorem taken_any (B : Nat) (A : Option Addr) (c : Nat) (l : List Int) (x : Int) (w : World) (hm : l.length ≤ 500) (ha : Asc l) (hA : l = [] → A = none ∧ c = 0) (hB : B ≤ w.heap.size) (hr : Rd w B 1 A l.length (l.map I)) :
    Calls Try.prog 118 #[.slice A l.length c, .int .i64 x] w fun e w' => e = .returned (.int .i64 ((putI l x).length : Int)) ∧ Below w.heap.size w w' := by
  have HC := Lib.hid (with_any B A c l x w hm ha hA hB hr)
  clear hr hA ha
  go_enter Try.func118, Try.ntmps118
  go_wp2_with fail
  go_at_call 137
  refine HC.out.mono ?_
  rintro e w2 ⟨A', c', rfl, _, hb⟩
  have HB := Lib.hid hb
  clear hb
  go_wp2
  go_ret
  exact ⟨rfl, HB.out⟩
theorem max_most (a b : Int) : max a b = mostI a b := by unfold mostI; split <;> omega

set_option maxRecDepth 100000 in
set_option maxHeartbeats 8000000 in
theorem pressure_any (B N R : Nat) (A1 A2 A : Option Addr) (c1 c2 c : Nat) (p : Pl) (w : World) (hs40 : p.s.length ≤ 40) (ho6 : p.o.length ≤ 6) (h6 : N ≤ 6) (hR : R = N + p.s.length) (hB : B ≤ w.heap.size) (hr : RdP w B A1 A2 p) :
    Calls Try.prog 82 #[.agg #[.int .i64 N, .slice A1 p.s.length c1, .slice A2 p.o.length c2, .slice A R c]] w fun e w' => e = .returned (.int .i64 (prK N p.s p.o p.s.length)) ∧ Below w.heap.size w w' := by
  have H := Lib.hid hr
  have LA := Lib.hid (fun (k : Nat) W hk hW hrW => liveAt_any2 B N R k A1 A2 A c1 c2 c p W hs40 ho6 h6 hR hk hW hrW)
  clear hr hR
  go_enter Try.func82, Try.ntmps82
  go_wp2
  generalize hw1 : World.alloc w _ = w1
  obtain ⟨⟨x0, x1, x2, x3⟩, xs, xb⟩ := box4w hw1
  clear hw1
  have XB := Lib.hid xb
  clear xb
  go_loopw [3, 12] (fun mv iv wr => ∃ k : Nat, k ≤ p.s.length ∧ iv = .int .i64 k ∧ mv = .int .i64 (prK N p.s p.o k) ∧ Below w1.heap.size w1 wr) (fun _ i _ => p.s.length - (intOf i).toNat)
  case atStart => exact ⟨0, by omega, rfl, rfl, Below.refl _ _⟩
  case round =>
    obtain ⟨k, hk, rfl, rfl, hbel⟩ := hrel
    have hsz := hbel.size
    have HBW := Lib.hid (XB.out.trans (hbel.mono (by omega)))
    have BEL := Lib.hid hbel
    by_cases hlt : k < p.s.length
    · have iqk : (k : Int) < (p.s.length : Int) := by omega
      have hlt1 : k + 1 ≤ p.s.length := hlt
      have hpk := prK_bd N p.s p.o k
      have LA1 := LA.out (k + 1)
      have SUC := show prK N p.s p.o (k + 1) = mostI (prK N p.s p.o k) ((putI (liv N p.s p.o (k + 1)) ((N + k : Nat) : Int)).length : Int) from rfl
      have hll : (liv N p.s p.o (k + 1)).length ≤ 500 := by
        have e : liv N p.s p.o (k + 1) = livK p.s p.o (k + 1) (N + (k + 1)) := rfl
        have := livK_le p.s p.o (k + 1) (N + (k + 1))
        rw [e]; omega
      have hput := putI_le (liv N p.s p.o (k + 1)) ((N + k : Nat) : Int)
      have TK := fun (A : Option Addr) (c : Nat) W hA hrW => taken_any W.heap.size A c (liv N p.s p.o (k + 1)) ((N + k : Nat) : Int) W hll (liv_asc N p.s p.o (k + 1)) hA (Nat.le_refl _) hrW
      have hwk : IntKind.i64.wrap ((N : Int) + (k : Int)) = ((N + k : Nat) : Int) := by rw [IntWalk.i64_in _ (by omega)]; omega
      have hwk1 : IntKind.i64.wrap ((k : Int) + 1) = ((k + 1 : Nat) : Int) := by rw [IntWalk.i64_in _ (by omega)]; omega
      obtain ⟨k1, hk1⟩ : ∃ k1, k + 1 = k1 := ⟨_, rfl⟩
      obtain ⟨pt, hpt⟩ : ∃ n : Nat, (putI (liv N p.s p.o (k + 1)) ((N + k : Nat) : Int)).length = n := ⟨_, rfl⟩
      rw [hpt] at SUC TK
      rw [hk1] at LA1 SUC TK hwk1 hlt1
      obtain ⟨m, hm⟩ : ∃ m, prK N p.s p.o k = m := ⟨_, rfl⟩
      rw [hm] at SUC hpk ⊢
      have hmx : max m (pt : Int) = mostI m (pt : Int) := max_most _ _
      have SUC := Lib.hid SUC
      have LA1 := Lib.hid LA1
      have TK := Lib.hid TK
      have HK1 := Lib.hid hk1
      have HMX := Lib.hid hmx
      have z0 := (hbel.cell (p := ⟨w.heap.size, 0, none⟩) (by simp only []; omega)).trans x0
      have z1 := (hbel.cell (p := ⟨w.heap.size, 1, none⟩) (by simp only []; omega)).trans x1
      have z2 := (hbel.cell (p := ⟨w.heap.size, 2, none⟩) (by simp only []; omega)).trans x2
      have z3 := (hbel.cell (p := ⟨w.heap.size, 3, none⟩) (by simp only []; omega)).trans x3
      have FS := Lib.hid (show ∀ x, Below wr.heap.size wr x → x.cell? ⟨w.heap.size, 0, none⟩ = some (.int .i64 N) ∧ x.cell? ⟨w.heap.size, 1, none⟩ = some (.slice A1 p.s.length c1) ∧ x.cell? ⟨w.heap.size, 2, none⟩ = some (.slice A2 p.o.length c2) ∧ x.cell? ⟨w.heap.size, 3, none⟩ = some (.slice A R c) from fun x hx =>
        ⟨(hx.cell (p := ⟨w.heap.size, 0, none⟩) (by simp only []; omega)).trans z0, (hx.cell (p := ⟨w.heap.size, 1, none⟩) (by simp only []; omega)).trans z1, (hx.cell (p := ⟨w.heap.size, 2, none⟩) (by simp only []; omega)).trans z2, (hx.cell (p := ⟨w.heap.size, 3, none⟩) (by simp only []; omega)).trans z3⟩)
      have S0 := Lib.hid (show Below wr.heap.size wr wr.drew from (Below.refl _ _).drew)
      clear hpt hput hll hm hk1 hmx hbel z0 z1 z2 z3
      go_wp2
      refine wp_region_T (fun x : World => Below wr.heap.size wr x) [0, 1, 2, 3, 5, 6, 7, 8, 9, 11, 12] [1, 7] (.lp 0 (.lp 2 (.lp 3 (.lp 5 (.lp 6 (.lp 8 (.ls 1 (.ls 7 (.lp 9 (.hv 4 (.hv 10 (.lp 11 (.lp 12 (.done)))))))))))))) (by kernel_rfl) (by kernel_rfl) ?_
      (repeat (refine T_lp rfl (fun K hK => ?_); go_simp; refine hK _ ?_; clear hK K))
      refine T_ls1 (v := .agg #[.int .i64 N, .slice A1 p.s.length c1, .slice A2 p.o.length c2, .slice A R c]) rfl rfl S0.out (fun x hx => (by obtain ⟨h0, h1, h2, h3⟩ := FS.out x hx; go_simp)) (fun K hK => ?_)
      (go_simp; refine hK _ ?_; clear hK K)
      refine T_ls1 (v := .int .i64 N) rfl rfl S0.out (fun x hx => (by obtain ⟨h0, h1, h2, h3⟩ := FS.out x hx; go_simp)) (fun K hK => ?_)
      (go_simp; refine hK _ ?_; clear hK K)
      (repeat (refine T_lp rfl (fun K hK => ?_); go_simp; refine hK _ ?_; clear hK K))
      refine T_hvS rfl (fun K hK => ?_)
      go_simp
      go_at_call 112
      have hbw := HBW.out.trans (S0.out.mono HBW.out.size)
      refine (LA1.out wr.drew hlt1 (by have := hbw.size; omega) (H.out.below' hbw hB)).mono ?_
      rintro e w5 ⟨A5, c5, rfl, h5, hn5, hb5⟩
      have S5 := Lib.hid (S0.out.trans (hb5.mono (by simp)))
      have O5 := Lib.hid h5
      have N5 := Lib.hid hn5
      go_simp
      refine hK _ _ S5.out ?_
      clear hK K h5 hb5 hbw hn5
      refine T_hvS rfl (fun K hK => ?_)
      go_simp
      go_at_call 118
      refine (TK.out A5 c5 w5 N5.out O5.out.rd).mono ?_
      rintro e w6 ⟨rfl, hb6⟩
      have S6 := Lib.hid (S5.out.trans (hb6.mono S5.out.size))
      go_simp
      refine hK _ _ S6.out ?_
      clear hK K hb6
      (repeat (first | (refine T_lp rfl (fun K hK => ?_); go_simp; refine hK _ ?_; clear hK K) | (refine T_ls rfl rfl (fun K hK => ?_); go_simp; refine hK _ ?_; clear hK K)))
      refine T_done ?_
      go_wp2
      go_roundw
      case rel => exact ⟨k + 1, hlt, by rw [HK1.out], by rw [HK1.out, SUC.out, ← HMX.out], BEL.out.trans (S6.out.mono hsz)⟩
      case measure =>
        have := HK1.out
        simp [intOf]; omega
    · have hk' : k = p.s.length := by omega
      subst hk'
      go_wp2
      go_ret
      exact ⟨rfl, HBW.out⟩

set_option maxRecDepth 100000 in
set_option maxHeartbeats 4000000 in
theorem specPressure_any (B : Nat) (A1 A2 : Option Addr) (c1 c2 : Nat) (p : Pl) (w : World) (hB : B ≤ w.heap.size) (hls : p.s.length ≤ 1048576) (hlo : p.o.length ≤ 1048576) (_hcap : p.s.length ≤ c1) (hr : RdP w B A1 A2 p) :
    Calls Try.prog 36 #[.agg #[.int .i64 p.n, .slice A1 p.s.length c1, .slice A2 p.o.length c2]] w fun e w' => e = .returned (.tuple #[.int .i64 (prR p), .bool (good p)]) ∧ Below w.heap.size w w' := by
  have H := Lib.hid hr
  clear hr
  obtain ⟨gd, hgd⟩ : ∃ x, good p = x := ⟨_, rfl⟩
  have HG := Lib.hid hgd
  go_enter Try.func36, Try.ntmps36
  go_wp2_with fail
  go_at_call 74
  generalize hw1 : World.alloc w _ = w1
  obtain ⟨⟨x0, x1, x2⟩, xs, xb⟩ := box3w hw1
  clear hw1
  have hC := plGood_any w.heap.size A1 A2 c1 c2 p w1 (by omega) (by omega) (by omega) ((H.out.below' xb hB).more hB)
  rw [hgd] at hC
  refine hC.mono ?_
  rintro e w2 ⟨rfl, hb2⟩
  clear hC hgd
  have y0 := (hb2.cell (p := ⟨w.heap.size, 0, none⟩) (by simp only []; omega)).trans x0
  have y1 := (hb2.cell (p := ⟨w.heap.size, 1, none⟩) (by simp only []; omega)).trans x1
  have y2 := (hb2.cell (p := ⟨w.heap.size, 2, none⟩) (by simp only []; omega)).trans x2
  have HB2 := Lib.hid (xb.trans (hb2.mono (show w.heap.size ≤ w1.heap.size by omega)))
  have hs2 : w.heap.size + 1 ≤ w2.heap.size := by have := hb2.size; omega
  clear x0 x1 x2 xs xb hb2
  cases gd with
  | false =>
    have EA := Lib.hid (prR_bad HG.out)
    go_wp2
    go_ret2
    exact ⟨by rw [EA.out, HG.out]; rfl, HB2.out⟩
  | true =>
    obtain ⟨N, hN, n1, n6, hs40, ho6, hok, hout, _⟩ := good_facts HG.out
    have EA := Lib.hid (prR_good HG.out hN)
    have UP := Lib.hid (plUpTo_any p.s.length)
    have RP := Lib.hid (fun AD cd W hcd hW hrW hrd => rePressure_any W.heap.size N A1 A2 c1 c2 p AD cd W hN n6 hs40 ho6 hcd hW hrW hrd)
    have FS := Lib.hid (show ∀ x, Below w2.heap.size w2 x → x.cell? ⟨w.heap.size, 0, none⟩ = some (.int .i64 p.n) ∧ x.cell? ⟨w.heap.size, 1, none⟩ = some (.slice A1 p.s.length c1) ∧ x.cell? ⟨w.heap.size, 2, none⟩ = some (.slice A2 p.o.length c2) from fun x hx =>
      ⟨(hx.cell (p := ⟨w.heap.size, 0, none⟩) (by simp only []; omega)).trans y0, (hx.cell (p := ⟨w.heap.size, 1, none⟩) (by simp only []; omega)).trans y1, (hx.cell (p := ⟨w.heap.size, 2, none⟩) (by simp only []; omega)).trans y2⟩)
    have S0 := Lib.hid (show Below w2.heap.size w2 w2.drew from (Below.refl _ _).drew)
    have hs1000 : p.s.length ≤ 1000 := by omega
    clear hok hout hN
    go_wp2
    refine wp_region_T (fun x : World => Below w2.heap.size w2 x) [0, 1, 2, 3, 6, 7] [0, 2] (.lp 1 (.ls 0 (.ls 2 (.lp 3 (.hv 4 (.hv 5 (.lp 6 (.lp 7 (.done))))))))) (by kernel_rfl) (by kernel_rfl) ?_
    (repeat (refine T_lp rfl (fun K hK => ?_); go_simp; refine hK _ ?_; clear hK K))
    refine T_ls1 (v := .agg #[.int .i64 p.n, .slice A1 p.s.length c1, .slice A2 p.o.length c2]) rfl rfl S0.out (fun x hx => (by obtain ⟨h0, h1, h2⟩ := FS.out x hx; go_simp)) (fun K hK => ?_)
    (go_simp; refine hK _ ?_; clear hK K)
    refine T_ls1 (v := .slice A1 p.s.length c1) rfl rfl S0.out (fun x hx => (by obtain ⟨h0, h1, h2⟩ := FS.out x hx; go_simp)) (fun K hK => ?_)
    (go_simp; refine hK _ ?_; clear hK K)
    (repeat (refine T_lp rfl (fun K hK => ?_); go_simp; refine hK _ ?_; clear hK K))
    refine T_hvS rfl (fun K hK => ?_)
    go_simp
    go_at_call 77
    refine (UP.out w2.drew hs1000).mono ?_
    rintro e w5 ⟨AD, cd, rfl, hu, hb5⟩
    have S5 := Lib.hid (S0.out.trans (hb5.mono (by simp)))
    have hu2 : w5.ownsRow w2.drew.heap.size 3 1 (.slice AD p.s.length cd) p.s.length ((ups p.s.length).map I) := by
      have h : w5.ownsRow _ _ _ _ _ _ := hu
      rw [ups_length] at h
      exact h
    have HU := Lib.hid hu2
    go_simp
    refine hK _ _ S5.out ?_
    clear hK K hu hu2 hb5
    refine T_hvS rfl (fun K hK => ?_)
    go_simp
    go_at_call 80
    refine (RP.out AD cd w5 (own_cap HU.out) (Nat.le_refl _) ((H.out.below' (HB2.out.trans (S5.out.mono HB2.out.size)) hB).more (by have := HB2.out.size; have := S5.out.size; omega)) (Rd.of_own HU.out)).mono ?_
    rintro e w6 ⟨rfl, hb6⟩
    have S6 := Lib.hid (S5.out.trans (hb6.mono S5.out.size))
    have HB6 := Lib.hid (HB2.out.trans (S6.out.mono HB2.out.size))
    clear hb6
    go_simp
    refine hK _ _ S6.out ?_
    clear hK K
    (repeat (first | (refine T_lp rfl (fun K hK => ?_); go_simp; refine hK _ ?_; clear hK K) | (refine T_ls rfl rfl (fun K hK => ?_); go_simp; refine hK _ ?_; clear hK K)))
    refine T_done ?_
    go_wp2
    go_ret2
    exact ⟨by rw [EA.out, HG.out]; rfl, HB6.out⟩

set_option maxRecDepth 100000 in
set_option maxHeartbeats 4000000 in
theorem implPressure_any (B : Nat) (A1 A2 : Option Addr) (c1 c2 : Nat) (p : Pl) (w : World) (hB : B ≤ w.heap.size) (hls : p.s.length ≤ 1048576) (hlo : p.o.length ≤ 1048576) (_hcap : p.s.length ≤ c1) (hr : RdP w B A1 A2 p) :
    Calls Try.prog 37 #[.agg #[.int .i64 p.n, .slice A1 p.s.length c1, .slice A2 p.o.length c2]] w fun e w' => e = .returned (.tuple #[.int .i64 (prR p), .bool (good p)]) ∧ Below w.heap.size w w' := by
  have H := Lib.hid hr
  clear hr
  go_enter Try.func37, Try.ntmps37
  go_wp2_with fail
  go_at_call 81
  generalize hw1 : World.alloc w _ = w1
  obtain ⟨x0, x1, x2, xs, xb⟩ := box3 hw1
  clear hw1
  refine (withValues_any B A1 A2 c1 c2 p w1 (by omega) (by omega) (by omega) (H.out.below' xb hB)).mono ?_
  rintro e w2 ⟨hb2, hpost⟩
  have HB2 := Lib.hid (xb.trans (hb2.mono (show w.heap.size ≤ w1.heap.size by omega)))
  have y1 := (hb2.cell (p := ⟨w.heap.size, 1, none⟩) (by simp only []; omega)).trans x1
  have hs2 : w.heap.size + 1 ≤ w2.heap.size := by have := hb2.size; omega
  clear x0 x1 x2 hb2
  rw [valsI_eq] at hpost
  by_cases hg : good p = true
  · rw [if_pos hg] at hpost
    simp only at hpost
    obtain ⟨A, c, rfl, _⟩ := hpost
    obtain ⟨N, hN, n1, n6, hs40, ho6, hok, _, _⟩ := good_facts hg
    have hn' : p.n.toNat = N := by omega
    have hel := exps_length N p.s
    have EA := Lib.hid (prR_good hg hN)
    obtain ⟨R, hR⟩ : ∃ R, N + p.s.length = R := ⟨_, rfl⟩
    rw [hn', List.length_map, hel, hR, hN]
    have HG := Lib.hid hg
    have PR := Lib.hid (fun W hW hrW => pressure_any B N R A1 A2 A c1 c2 c p W hs40 ho6 n6 hR.symm hW hrW)
    clear hn' hN hg hel hR xs xb hok y1
    go_wp2_with fail
    go_at_call 82
    generalize hw3 : World.alloc w2 _ = w3
    obtain ⟨_, xs, xb⟩ := box4v hw3
    clear hw3
    have HB3 := Lib.hid (HB2.out.trans (xb.mono (by omega)))
    refine (PR.out w3 (by omega) (H.out.below' HB3.out hB)).mono ?_
    rintro e w4 ⟨rfl, hb4⟩
    have HB4 := Lib.hid (HB3.out.trans (hb4.mono HB3.out.size))
    clear hb4 xs xb
    go_wp2
    go_ret2
    exact ⟨by rw [EA.out, HG.out]; rfl, HB4.out⟩
  · rw [if_neg hg] at hpost
    simp only at hpost
    subst hpost
    have hg' : good p = false := by simpa using hg
    have EA := Lib.hid (prR_bad hg')
    have HG := Lib.hid hg'
    clear hg hg'
    go_wp2
    go_ret2
    exact ⟨by rw [EA.out, HG.out]; rfl, HB2.out.alloc HB2.out.size _⟩
end Go.Proofs.Ytbbjgcagkmlngaa
