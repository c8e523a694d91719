/- A number put into a list of own memory, by the library. -/
import Derived.Test.YtbbjgcagkmlngacQn
import Derived.Lib.AppendZeros
import Derived.Lib.AppendZerosOnto
import Derived.Lib.Overlaps
import Derived.Lib.SliceRun
import Derived.Laws.Externs
import Derived.Laws.IdiomCopy
namespace Go.Proofs.Ytbbjgcagkmlngac
open Go.RowKit

theorem append_two (w : World) (ty : TypeId) (A : Option Addr) (n c : Nat) (x : Value) : (Builtin.append_ #[60, 22] ty #[.slice A n c, x]).run Try.prog w = (Builtin.append_ #[60, 60] ty #[.slice A n c, x]).run Try.prog w := by
  have u1 := run_underlying Try.underlying60
  have u2 := run_underlying Try.underlying22
  unfold Builtin.append_
  simp [Sem.run_bind, u1, u2]

/-- The operation copy, where its run is known. -/
theorem at_copy (w : World) {o : Oper} {a : Act} {K : Act → World → Prop} {Q : Exit → Act → World → Prop} (d s : Operand) (t t' : TypeId)
    (ho : o.op = .call { callee := .builtin .copy, args := #[d, s], argTypes := #[t, t'] }) (v u : Value) (hd : a.eval d = v) (hs : a.eval s = u) {v' : Value} {w' : World}
    (hr : (Builtin.copy_ #[t, t'] o.type #[v, u]).run Try.prog w = .ok v' w') (h : K (a.put o.dst v') w') : o.wp Try.prog a w K Q := by
  unfold Oper.wp execOp
  simp only [ho, resolve, invoke, builtin, Sem.run_bind, Sem.run_pure, Result.andThen_ok, List.map_toArray, List.map_cons, List.map_nil, hd, hs, hr]
  exact h
theorem list_copy (w : World) {ops : Array Oper} {rest : List Oper} {o : Oper} {a : Act} {Q : Exit → Act → World → Prop} (hgd : o.guard = none) (d s : Operand) (t t' : TypeId)
    (ho : o.op = .call { callee := .builtin .copy, args := #[d, s], argTypes := #[t, t'] }) (v u : Value) (hd : a.eval d = v) (hs : a.eval s = u) {v' : Value} {w' : World}
    (hr : (Builtin.copy_ #[t, t'] o.type #[v, u]).run Try.prog w = .ok v' w') (h : wpList Try.prog ops Q rest (a.put o.dst v') w') : wpList Try.prog ops Q (o :: rest) a w :=
  wpList_plain hgd fun _ hK => at_copy w d s t t' ho v u hd hs hr (hK _ _ h)
theorem step_copy {ops : Array Oper} {o : Oper} {a : Act} {w : World} {K : Act → World → Prop} {Q : Exit → Act → World → Prop} {E : Prop}
    (hg : o.guard = none) (d x : Operand) (dT sT : TypeId) (hop : o.op = Op.call { callee := Callee.builtin Builtin.copy, args := #[d, x], argTypes := #[dT, sT] })
    (v u : Value) (hd : a.eval d = v) (hx : a.eval x = u) {v' : Value} {w' : World} (hr : (Builtin.copy_ #[dT, sT] o.type #[v, u]).run Try.prog w = .ok v' w') (hK : K (a.put o.dst v') w') :
    if Region.wanted o (yielded ops a.tmps) = true then Oper.wp Try.prog o a w K Q else E := by
  have hw : Region.wanted o (yielded ops a.tmps) = true := by simp [Region.wanted, hg]
  rw [if_pos hw]
  unfold Oper.wp
  simp [execOp, hop, resolve, invoke, builtin, hd, hx, hr, Result.andThen]
  exact hK

/-- Stores of a list keep the block's size and type. -/
theorem setCells_heap (b : Nat) : ∀ (vs : List Value) (o : Nat) (w : World) (cur : Array Value) (t : TypeId), w.heap[b]? = some (.cells cur t (0, 0)) →
    ∃ cur', (w.setCells b o vs).heap[b]? = some (.cells cur' t (0, 0)) ∧ cur'.size = cur.size
  | [], _, _, cur, _, h => ⟨cur, h, rfl⟩
  | v :: vs, o, _, cur, t, h => by
    have h1 := heap_setCell_same _ b o cur t v h
    obtain ⟨cur', h2, h3⟩ := setCells_heap b vs (o + 1) _ _ t h1
    exact ⟨cur', h2, by rw [h3]; simp⟩
theorem setCells_below {B b : Nat} (hB : B ≤ b) : ∀ (vs : List Value) (o : Nat) (w0 w : World), Below B w0 w → Below B w0 (w.setCells b o vs)
  | [], _, _, _, h => h
  | v :: vs, o, w0, _, h => setCells_below hB vs (o + 1) w0 _ (h.setCell (p := ⟨b, o, none⟩) hB v)
/-- A row by its block and its cells. -/
theorem own_cells_mk {w : World} {B g cap n : Nat} {cur : Array Value} {t : TypeId} {xs : List Value} (hB : B ≤ g) (hg : w.heap[g]? = some (.cells cur t (0, 0))) (hs : cur.size = cap) (hn : n ≤ cap) (hM : cap ≤ maxLen) (hl : xs.length = n)
    (hc : ∀ j, j < n → w.cell? ⟨g, j, none⟩ = xs[j]?) : w.ownsRow B t 1 (.slice (some ⟨g, 0, none⟩) n cap) n xs := by
  refine ⟨by omega, .inr ⟨g, cap, cur, rfl, hB, hg, hn, hM, by omega, ?_⟩⟩
  refine List.ext_getElem (by rw [List.length_take, Array.length_toList]; omega) fun j h1 h2 => ?_
  have hj : j < n := by omega
  have h := hc j hj
  unfold World.cell? at h
  rw [hg] at h
  simp only [Option.isSome_none, Bool.false_eq_true, if_false] at h
  rw [List.getElem?_eq_getElem h2] at h
  rw [List.getElem_take]
  have h3 : j < cur.size := by omega
  rw [Array.getElem?_eq_getElem h3] at h
  simp only [Option.some.injEq] at h
  rw [Array.getElem_toList]
  exact h
/-- The list with x at index i. -/
def insA (l : List Int) (i : Nat) (x : Int) : List Int := l.take i ++ x :: l.drop i
theorem insA_length (l : List Int) {i : Nat} (x : Int) (hi : i ≤ l.length) : (insA l i x).length = l.length + 1 := by
  unfold insA
  rw [List.length_append, List.length_cons, List.length_take, List.length_drop]
  omega
theorem insA_at (l : List Int) {i : Nat} (x : Int) (hi : i ≤ l.length) (j : Nat) : ((insA l i x).map I)[j]? = if j < i then (l.map I)[j]? else if j = i then some (I x) else (l.map I)[j - 1]? := by
  unfold insA
  rw [List.map_append, List.map_cons, List.map_take, List.map_drop]
  by_cases h1 : j < i
  · rw [if_pos h1, List.getElem?_append_left (by simp; omega), List.getElem?_take, if_pos h1]
  · rw [if_neg h1, List.getElem?_append_right (by simp; omega)]
    have e : (List.take i (l.map I)).length = i := by simp; omega
    rw [e]
    by_cases h2 : j = i
    · subst h2
      simp
    · rw [if_neg h2, show j - i = (j - i - 1) + 1 by omega, List.getElem?_cons_succ, List.getElem?_drop]
      congr 1
      omega

set_option maxRecDepth 100000 in
set_option maxHeartbeats 2000000 in
/-- At the end. -/
theorem insert_end (B0 : Nat) (A : Option Addr) (c n : Nat) (x : Int) (vb vc : Nat) (l : List Int) (w : World) (hln : l.length = n) (hn : n ≤ 1000) (hB : B0 ≤ w.heap.size)
    (hown : w.ownsRow B0 3 1 (.slice A n c) n (l.map I)) (hv : w.cell? ⟨vb, 0, none⟩ = some (I x)) :
    Calls Try.prog 82 #[.slice A n c, .int .i64 n, .slice (some ⟨vb, 0, none⟩) 1 vc] w fun e w' =>
      ∃ A' c', e = .returned (.slice A' (n + 1) c') ∧ w'.ownsRow B0 3 1 (.slice A' (n + 1) c') (n + 1) ((insA l n x).map I) ∧ Below B0 w w' := by
  obtain ⟨i0, hi, hz0, hz1, hz2⟩ := info_parts info_int
  have hrun := fun ty => run_append_lies (P := Try.prog) (w := w) 60 ty B0 3 i0 _ 1 8 Try.underlying60 hi hz0 hz1 hz2 rfl (by omega) (.slice A n c) n (l.map I) hown
    ⟨vb, 0, none⟩ 1 vc [I x] rfl (fun j u hj => by
      match j, hj with
      | 0, hj => simp at hj; subst hj; simpa [Addr.add] using hv) (fun u hu => by simp at hu; subst hu; rfl) (by omega) (by unfold maxLen; omega) (by omega) hB w.heap.size rfl
  have hrun2 : ∀ ty, ∃ g cap w', (Builtin.append_ #[60, 22] ty #[.slice A n c, .slice (some ⟨vb, 0, none⟩) 1 vc]).run Try.prog w = .ok (.slice (some ⟨g, 0, none⟩) (n + 1) cap) w' ∧
      w'.ownsRow B0 3 1 (.slice (some ⟨g, 0, none⟩) (n + 1) cap) (n + 1) (l.map I ++ [I x]) ∧ Below B0 w w' := fun ty => by
    obtain ⟨g, cap, w', hr, h2, h3, _, _⟩ := hrun ty
    exact ⟨g, cap, w', (append_two w ty A n c _).trans hr, h2, below_of_own hown hB h3⟩
  obtain ⟨g, cap, w', hr, h2, h3⟩ := hrun2 60
  have HR := Lib.hid hr
  have H2 := Lib.hid h2
  have H3 := Lib.hid h3
  clear hrun hrun2 hown hr h2 h3
  go_enter Try.func82, Try.ntmps82
  go_wp2_with (at_builtin; refine Lib.wpList_append_run _ rfl _ _ _ _ rfl _ _ rfl rfl _ _ HR.out ?_)
  all_goals
    go_ret
    refine ⟨_, _, rfl, ?_, H3.out⟩
    have e : insA l n x = l ++ [x] := by unfold insA; rw [List.take_of_length_le (by omega), List.drop_of_length_le (by omega)]
    rw [e, List.map_append]
    exact H2.out

theorem cells_some {w : World} {b : Nat} {cur : Array Value} {t : TypeId} (h : w.heap[b]? = some (.cells cur t (0, 0))) {j : Nat} (hj : j < cur.size) : (w.cell? ⟨b, j, none⟩).isSome = true := by
  unfold World.cell?
  rw [h]
  simp [hj]
theorem cells_free {w : World} {b : Nat} {cur : Array Value} {t : TypeId} (h : w.heap[b]? = some (.cells cur t (0, 0))) (j : Nat) : w.frozen? ⟨b, j, none⟩ = false := by
  unfold World.frozen?
  rw [h]
  simp
theorem cells_shape {w : World} {b : Nat} {cur : Array Value} {t : TypeId} (h : w.heap[b]? = some (.cells cur t (0, 0))) : w.shape? b = some (t, cur.size) := by
  unfold World.shape?
  rw [h]
theorem isSome_set (b : Nat) (vs : List Value) (o : Nat) (w : World) (h : ∀ j, j < vs.length → (w.cell? ⟨b, o + j, none⟩).isSome = true) (k : Nat) (hk : (w.cell? ⟨b, k, none⟩).isSome = true) : ((w.setCells b o vs).cell? ⟨b, k, none⟩).isSome = true := by
  by_cases hin : o ≤ k ∧ k < o + vs.length
  · have := World.cell?_setCells_in b vs o w h (k - o) (by omega)
    rw [show o + (k - o) = k by omega] at this
    rw [this]; rfl
  · rw [World.cell?_setCells_out b vs o w ⟨b, k, none⟩ (fun _ _ => by show k < o ∨ o + vs.length ≤ k; omega)]
    exact hk

set_option maxRecDepth 100000 in
set_option maxHeartbeats 4000000 in
theorem insert_room (B0 : Nat) (b c n i : Nat) (x : Int) (vb vc : Nat) (l : List Int) (w : World) (hln : l.length = n) (hi : i < n) (hn : n ≤ 1000) (hc : n + 1 ≤ c)
    (hown : w.ownsRow B0 3 1 (.slice (some ⟨b, 0, none⟩) n c) n (l.map I)) (hv : w.heap[vb]? = some (.cells #[I x] 3 (0, 0))) (hvb : vb ≠ b) :
    Calls Try.prog 82 #[.slice (some ⟨b, 0, none⟩) n c, .int .i64 i, .slice (some ⟨vb, 0, none⟩) 1 vc] w fun e w' =>
      ∃ A' c', e = .returned (.slice A' (n + 1) c') ∧ w'.ownsRow B0 3 1 (.slice A' (n + 1) c') (n + 1) ((insA l i x).map I) ∧ Below B0 w w' := by
  obtain ⟨g, cap, cur, hve, hBb, hg, hncap, hcM, hcs, _⟩ := hown.2.resolve_left (fun h => by have := h.1; simp at this)
  simp only [Value.slice.injEq, Option.some.injEq, Addr.mk.injEq, and_true, true_and] at hve
  obtain ⟨rfl, rfl⟩ := hve
  have hcsz : cur.size = c := by omega
  have hcl : ∀ j v, (l.map I)[j]? = some v → w.cell? ⟨b, 0 + j, none⟩ = some v := fun j v hj => by
    have hjl : j < (l.map I).length := (List.getElem?_eq_some_iff.1 hj).1
    rw [Nat.zero_add, hown.cellAt j (by simp at hjl; omega), hj]
  have hsp : ∀ j, j < n + 1 → (w.cell? ⟨b, 0 + j, none⟩).isSome = true := fun j hj => by rw [Nat.zero_add]; exact cells_some hg (by omega)
  have hfz : ∀ j, j < n + 1 → w.frozen? ⟨b, 0 + j, none⟩ = false := fun j _ => cells_free hg _
  have hvs : ∀ j v, ([I x] : List Value)[j]? = some v → w.cell? ⟨vb, 0 + j, none⟩ = some v := fun j v hj => by
    match j, hj with
    | 0, hj => simp at hj; subst hj; unfold World.cell?; rw [hv]; simp
  have hz2 : ¬ ((i : Int) = (n : Int)) := by omega
  obtain ⟨i0, hi0, hz0, hz1, hz2'⟩ := info_parts info_int
  have hsz : (Try.prog.info? 3).map (·.size) = some 1 := by rw [hi0]; simp [hz1]
  have hov : ∀ lb cb, (callFunc 89 #[.slice (some ⟨vb, 0, none⟩) 1 vc, .slice (some ⟨b, i + 1, none⟩) lb cb]).run Try.prog w = .ok (.value (.bool false)) w := fun lb cb => by
    rw [run_callFunc_extern Try.func89 (by kernel_rfl) (by kernel_rfl) (by kernel_rfl) (e := Extern.SlicesOverlaps.overlaps #[22, 22] #[4]) (by kernel_rfl),
      Lib.run_overlaps_apart w 22 4 3 Try.underlying22 1 Try.sizeOf3 ⟨vb, 0, none⟩ ⟨b, i + 1, none⟩ 1 vc lb cb hvb 3 3 1 cur.size (cells_shape hv) (cells_shape hg) (by omega) (cells_free hv 0) (cells_free hv 1)]
    rfl
  have hdl : ((l.map I).drop i).length = n - i := by rw [List.length_drop, List.length_map, hln]
  have hw1 : IntKind.i64.wrap ((i : Int) + 1) = (i : Int) + 1 := IntWalk.i64_in _ (by omega)
  have hw2 : IntKind.i64.wrap ((n : Int) + 1) = (n : Int) + 1 := IntWalk.i64_in _ (by omega)
  have hb1 : (0 : Int) ≤ (i : Int) + 1 := by omega
  have hin : i ≤ n := by omega
  have htn : ((i : Int) + 1).toNat = i + 1 := by omega
  have htn2 : ((n : Int) + 1).toNat = n + 1 := by omega
  have hb2 : ¬ (c = i + 1) := by omega
  have hb3 : (i : Int) ≤ (n : Int) + 1 := by omega
  have hb4 : ¬ (c = i) := by omega
  have hroom : ¬ ((c : Int) < (n : Int) + 1) := by omega
  have hc1 : (n : Int) + 1 ≤ (c : Int) := by omega
  have h1c : ∀ v ∈ l.map I, v.oneCell' = true := ints_one l
  have hcp1 : ∀ ty dc sc, (Builtin.copy_ #[60, 60] ty #[.slice (some ⟨b, i + 1, none⟩) (n + 1 - (i + 1)) dc, .slice (some ⟨b, i, none⟩) (n + 1 - i) sc]).run Try.prog w.drew = .ok (goInt ((l.map I).drop i).length) (w.drew.setCells b (i + 1) ((l.map I).drop i)) := fun ty dc sc =>
    run_copy_cells w.drew _ _ ty 3 b (i + 1) (n + 1 - (i + 1)) dc ⟨b, i, none⟩ (n + 1 - i) sc ((l.map I).drop i) Try.underlying60 hsz (by rw [hdl]; simp only [Nat.min_def]; split <;> omega)
      (fun j v hj => by rw [Addr.add_lit]; have h := hcl (i + j) v (by rwa [List.getElem?_drop] at hj); rwa [Nat.zero_add] at h)
      (fun j hj => by have h := hsp (i + 1 + j) (by omega); rwa [Nat.zero_add] at h) (fun j _ => cells_free hg _) (fun v hv => h1c v (List.mem_of_mem_drop hv))
  obtain ⟨W1, hW1⟩ : ∃ W1, W1 = w.drew.setCells b (i + 1) ((l.map I).drop i) := ⟨_, rfl⟩
  have hsp1 : ∀ k, k < n + 1 → (W1.cell? ⟨b, k, none⟩).isSome = true := fun k hk => by
    rw [hW1]
    exact isSome_set b _ _ _ (fun j hj => by have h := hsp (i + 1 + j) (by omega); rwa [Nat.zero_add] at h) _ (by have h := hsp k hk; rwa [Nat.zero_add] at h)
  have hcp2 : ∀ (W : World), (∀ x, W.cell? x = W1.cell? x) → (∀ x, W.frozen? x = W1.frozen? x) → ∀ ty dc, (Builtin.copy_ #[60, 22] ty #[.slice (some ⟨b, i, none⟩) (n + 1 - i) dc, .slice (some ⟨vb, 0, none⟩) 1 vc]).run Try.prog W = .ok (goInt ([I x] : List Value).length) (W.setCells b i [I x]) := fun W hWc hWf ty dc =>
    run_copy_cells W _ _ ty 3 b i (n + 1 - i) dc ⟨vb, 0, none⟩ 1 vc [I x] Try.underlying60 hsz (by simp only [Nat.min_def, List.length_cons, List.length_nil]; split <;> omega)
      (fun j v hj => by
        rw [Addr.add_lit, hWc, hW1, World.cell?_setCells_out b _ _ _ _ (fun h _ => absurd h hvb)]
        exact hvs j v hj)
      (fun j hj => by rw [hWc]; exact hsp1 _ (by simp at hj; omega)) (fun j _ => by rw [hWf, hW1, World.frozen?_setCells]; exact cells_free hg _) (fun u hu => by simp at hu; subst hu; rfl)
  rw [← hW1] at hcp1
  have HW1 := Lib.hid hW1
  have HG := Lib.hid hg
  have HOWN := Lib.hid hown
  have HSP := Lib.hid hsp
  have HCS := Lib.hid hcsz
  have HSP1 := Lib.hid hsp1
  have HCL := Lib.hid hcl
  have HCP1 := Lib.hid hcp1
  have HCP2 := Lib.hid hcp2
  clear hW1 hg hown hsp hsp1 hcl hcp1 hcp2 hfz hvs h1c hv hi0 hz0 hz1 hz2' hsz hdl hcs hcsz hln
  go_enter Try.func82, Try.ntmps82
  go_wp2_with (simp only [hov])
  refine wp_region_Tw [0, 1, 2, 3, 4, 5, 6, 7] [] (.lp 0 (.lp 1 (.lp 2 (.lp 3 (.lp 4 (.lp 5 (.lp 6 (.lp 7 (.hv 8 (.done)))))))))) (by kernel_rfl) (by kernel_rfl) ?_
  (repeat (first | (refine T_lp rfl (fun K hK => ?_); go_simp; refine hK _ ?_; clear hK K) | (refine T_ls rfl rfl (fun K hK => ?_); go_simp; refine hK _ ?_; clear hK K)))
  refine T_hv rfl (by kernel_rfl) (fun K hK => ?_)
  refine step_copy rfl (.tmp 73) (.tmp 76) 60 60 rfl (.slice (some ⟨b, i + 1, none⟩) (n + 1 - (i + 1)) (c - (i + 1))) (.slice (some ⟨b, i, none⟩) (n + 1 - i) (c - i)) ?_ ?_ (HCP1.out _ _ _) ?_
  · simp [Act.eval]
  · simp [Act.eval]
  · (go_simp; refine hK _ _ ?_; clear hK K)
    refine T_done ?_
    have hc2 := HCP2.out W1 (fun _ => rfl) (fun _ => rfl) 3 (c - i)
    go_wp2_with (simp only [hc2])
    go_ret
    refine ⟨_, _, rfl, ?_, ?_⟩
    · obtain ⟨cu1, hc1', hs1⟩ := setCells_heap b ((l.map I).drop i) (i + 1) w.drew cur _ HG.out
      rw [← HW1.out] at hc1'
      obtain ⟨cu2, hc2', hs2⟩ := setCells_heap b [I x] i W1 cu1 _ hc1'
      have hdl : ((l.map I).drop i).length = l.length - i := by simp
      have hll : l.length = n := by have h := HOWN.out.1; simpa using h
      refine own_cells_mk hBb hc2' (by have := HCS.out; omega) hc hcM (by simp [insA_length l x (by omega : i ≤ l.length), hll]) (fun j hj => ?_)
      rw [insA_at l x (by omega : i ≤ l.length) j]
      by_cases h1 : j < i
      · rw [if_pos h1, World.cell?_setCells_out b _ _ _ _ (fun _ _ => by simp; omega), HW1.out, World.cell?_setCells_out b _ _ _ _ (fun _ _ => by simp; omega)]
        exact HOWN.out.cellAt j (by omega)
      · rw [if_neg h1]
        by_cases h2 : j = i
        · subst h2
          rw [if_pos rfl]
          have h := World.cell?_setCells_in b [I x] j W1 (fun t ht => by have := HSP1.out (j + t) (by simp at ht; omega); exact this) 0 (by simp)
          rw [Nat.add_zero] at h
          rw [h]
          rfl
        · rw [if_neg h2, World.cell?_setCells_out b _ _ _ _ (fun _ _ => by simp; omega), HW1.out]
          have h := World.cell?_setCells_in b ((l.map I).drop i) (i + 1) w.drew (fun t ht => by have := HSP.out (i + 1 + t) (by omega); rw [Nat.zero_add] at this; exact this) (j - (i + 1)) (by omega)
          rw [show i + 1 + (j - (i + 1)) = j by omega] at h
          rw [h, List.getElem_drop, List.getElem?_eq_getElem (by simp; omega)]
          congr 2
          omega
    · refine setCells_below hBb _ _ _ _ ?_
      rw [HW1.out]
      exact setCells_below hBb _ _ _ _ (Below.refl _ _).drew

theorem cell_blk {w : World} {b o : Nat} {v : Value} (h : w.cell? ⟨b, o, none⟩ = some v) : b < w.heap.size := by
  unfold World.cell? at h
  simp only at h
  cases hb : w.heap[b]? with
  | none => rw [hb] at h; simp at h
  | some o => exact (Array.getElem?_eq_some_iff.1 hb).1

set_option maxRecDepth 100000 in
set_option maxHeartbeats 4000000 in
theorem insert_grow (B0 : Nat) (b c n i : Nat) (x : Int) (vb vc : Nat) (l : List Int) (w : World) (hln : l.length = n) (hi : i < n) (hn : n ≤ 1000) (hc : c < n + 1) (hB : B0 ≤ w.heap.size)
    (hown : w.ownsRow B0 3 1 (.slice (some ⟨b, 0, none⟩) n c) n (l.map I)) (hv : w.heap[vb]? = some (.cells #[I x] 3 (0, 0))) :
    Calls Try.prog 82 #[.slice (some ⟨b, 0, none⟩) n c, .int .i64 i, .slice (some ⟨vb, 0, none⟩) 1 vc] w fun e w' =>
      ∃ A' c', e = .returned (.slice A' (n + 1) c') ∧ w'.ownsRow B0 3 1 (.slice A' (n + 1) c') (n + 1) ((insA l i x).map I) ∧ Below B0 w w' := by
  obtain ⟨g, cap, cur, hve, hBb, hg, hncap, hcM, hcs, _⟩ := hown.2.resolve_left (fun h => by have := h.1; simp at this)
  simp only [Value.slice.injEq, Option.some.injEq, Addr.mk.injEq, and_true, true_and] at hve
  obtain ⟨rfl, rfl⟩ := hve
  have hcl : ∀ j v, (l.map I)[j]? = some v → w.cell? ⟨b, 0 + j, none⟩ = some v := fun j v hj => by
    have hjl : j < (l.map I).length := (List.getElem?_eq_some_iff.1 hj).1
    rw [Nat.zero_add, hown.cellAt j (by simp at hjl; omega), hj]
  have hvs : ∀ j v, ([I x] : List Value)[j]? = some v → w.cell? ⟨vb, 0 + j, none⟩ = some v := fun j v hj => by
    match j, hj with
    | 0, hj => simp at hj; subst hj; unfold World.cell?; rw [hv]; simp
  have hbw : b < w.heap.size := (Array.getElem?_eq_some_iff.1 hg).1
  have hvw : vb < w.heap.size := (Array.getElem?_eq_some_iff.1 hv).1
  have hz2 : ¬ ((i : Int) = (n : Int)) := by omega
  obtain ⟨i0, hi0, hz0, hz1, hz2'⟩ := info_parts info_int
  have hsz : (Try.prog.info? 3).map (·.size) = some 1 := by rw [hi0]; simp [hz1]
  have hlm : (l.map I).length = n := by simp [hln]
  have hkk : (n : Int) + 1 - (i : Int) = ((n + 1 - i : Nat) : Int) := by omega
  have hik : i + (n + 1 - i) = n + 1 := by omega
  have hold : (Builtin.firstCells i0.size i (.slice (some ⟨b, 0, none⟩) i c)).run Try.prog w.drew = .ok ((l.map I).take i).toArray w.drew := by
    rw [hz1]
    exact run_firstCells_some w.drew 1 i ⟨b, 0, none⟩ i c ((l.map I).take i) (by rw [List.length_take]; omega) (fun j v hj => by
      rw [Addr.add_lit]
      rw [List.getElem?_take] at hj
      split at hj
      · exact hcl j v hj
      · cases hj)
  have hrz : ∀ ty, (Builtin.append_ #[60, 3] ty #[.slice (some ⟨b, 0, none⟩) i c, .int .i64 ((n : Int) + 1 - (i : Int))]).run Try.prog w =
      .ok (.slice (some ⟨w.heap.size, 0, none⟩) (n + 1) (grownCap w (n + 1) c 3)) (w.drew.alloc (.cells (((l.map I).take i).toArray ++ Builtin.zeroCells (Value.int .i64 0).cells (n + 1 - i) ++ Builtin.zeroCells (Value.int .i64 0).cells (grownCap w (n + 1) c 3 - (n + 1))) 3)) := fun ty => by
    have h := Lib.run_append_grow_zeros w 60 3 ty 3 i0 _ .i64 .i64 Try.underlying60 Try.underlying3 hi0 hz0 (some ⟨b, 0, none⟩) i c ((l.map I).take i) hold (n + 1 - i) (by omega) (by omega) (by omega) (by omega) (by rw [hz2']; omega) (by rw [hz2', hik]; exact growslice_fits hc (by omega))
    rw [hik] at h
    rw [hkk]
    exact h
  have hGn : n + 1 ≤ grownCap w (n + 1) c 3 := grownCap_ge w _ _ _
  have hGM : grownCap w (n + 1) c 3 ≤ maxLen := grownCap_le_maxLen w (n + 1) c 3 (by unfold maxLen; omega)
  obtain ⟨G, hG⟩ : ∃ G, G = grownCap w (n + 1) c 3 := ⟨_, rfl⟩
  rw [← hG] at hrz hGn hGM
  obtain ⟨ROW, hROW⟩ : ∃ ROW : Array Value, ROW = ((l.map I).take i).toArray ++ Builtin.zeroCells (Value.int .i64 0).cells (n + 1 - i) ++ Builtin.zeroCells (Value.int .i64 0).cells (G - (n + 1)) := ⟨_, rfl⟩
  have hRs : ROW.size = G := by
    rw [hROW]
    simp [Builtin.zeroCells, Value.cells]
    omega
  have hRat : ∀ j, j < i → ROW[j]? = (l.map I)[j]? := fun j hj => by
    rw [hROW, Array.getElem?_append_left (by simp [Builtin.zeroCells, Value.cells]; omega), Array.getElem?_append_left (by simp; omega)]
    simp [hj]
  rw [← hROW] at hrz
  obtain ⟨W1, hW1⟩ : ∃ W1, W1 = w.drew.alloc (.cells ROW 3) := ⟨_, rfl⟩
  rw [← hW1] at hrz
  have hR1 : ∀ j, W1.cell? ⟨w.heap.size, j, none⟩ = ROW[j]? := fun j => by rw [hW1, World.cell?_alloc_at (w := w.drew) ROW _ w.heap.size j rfl]
  have hN : ∀ j, j < n + 1 → (W1.cell? ⟨w.heap.size, j, none⟩).isSome = true := fun j hj => by
    rw [hR1, Array.getElem?_eq_getElem (by omega)]; rfl
  have hNf : ∀ j, W1.frozen? ⟨w.heap.size, j, none⟩ = false := fun j => by rw [hW1]; exact World.frozen?_alloc_at (w := w.drew) ROW _ w.heap.size j rfl
  have hOb : ∀ j v, w.cell? ⟨b, j, none⟩ = some v → W1.cell? ⟨b, j, none⟩ = some v := fun j v h => by rw [hW1, World.cell?_alloc_past (w := w.drew) _ b j hbw]; exact h
  have hOv : ∀ j v, w.cell? ⟨vb, j, none⟩ = some v → W1.cell? ⟨vb, j, none⟩ = some v := fun j v h => by rw [hW1, World.cell?_alloc_past (w := w.drew) _ vb j hvw]; exact h
  have hbN : b ≠ w.heap.size := by omega
  have hdl : ((l.map I).drop i).length = n - i := by rw [List.length_drop, hlm]
  have h1c : ∀ v ∈ l.map I, v.oneCell' = true := ints_one l
  have hcpA : ∀ (W : World), (∀ x, W.cell? x = W1.cell? x) → (∀ x, W.frozen? x = W1.frozen? x) → ∀ ty dc, (Builtin.copy_ #[60, 22] ty #[.slice (some ⟨w.heap.size, i, none⟩) (n + 1 - i) dc, .slice (some ⟨vb, 0, none⟩) 1 vc]).run Try.prog W = .ok (goInt ([I x] : List Value).length) (W.setCells w.heap.size i [I x]) := fun W hWc hWf ty dc =>
    run_copy_cells W _ _ ty 3 w.heap.size i (n + 1 - i) dc ⟨vb, 0, none⟩ 1 vc [I x] Try.underlying60 hsz (by simp only [Nat.min_def, List.length_cons, List.length_nil]; split <;> omega)
      (fun j v hj => by rw [Addr.add_lit, hWc]; exact hOv _ v (hvs j v hj))
      (fun j hj => by rw [hWc]; exact hN _ (by simp at hj; omega)) (fun j _ => by rw [hWf]; exact hNf _) (fun u hu => by simp at hu; subst hu; rfl)
  have hcpB : ∀ (W : World), (∀ y, W.cell? y = (W1.setCells w.heap.size i [I x]).cell? y) → (∀ y, W.frozen? y = (W1.setCells w.heap.size i [I x]).frozen? y) → ∀ ty dc sc, (Builtin.copy_ #[60, 60] ty #[.slice (some ⟨w.heap.size, i + 1, none⟩) (n + 1 - (i + 1)) dc, .slice (some ⟨b, i, none⟩) (n - i) sc]).run Try.prog W = .ok (goInt ((l.map I).drop i).length) (W.setCells w.heap.size (i + 1) ((l.map I).drop i)) := fun W hWc hWf ty dc sc =>
    run_copy_cells W _ _ ty 3 w.heap.size (i + 1) (n + 1 - (i + 1)) dc ⟨b, i, none⟩ (n - i) sc ((l.map I).drop i) Try.underlying60 hsz (by rw [hdl]; simp only [Nat.min_def]; split <;> omega)
      (fun j v hj => by
        rw [Addr.add_lit, hWc, World.cell?_setCells_out _ _ _ _ _ (fun h _ => absurd h hbN)]
        have h := hcl (i + j) v (by rwa [List.getElem?_drop] at hj)
        rw [Nat.zero_add] at h
        exact hOb _ v h)
      (fun j hj => by rw [hWc]; exact isSome_set _ _ _ _ (fun t ht => hN _ (by simp at ht; omega)) _ (hN _ (by omega)))
      (fun j _ => by rw [hWf, World.frozen?_setCells]; exact hNf _) (fun v hv => h1c v (List.mem_of_mem_drop hv))
  have hGi : ¬ (G = i) := by omega
  have hGim : ¬ (G = i + 1) := by omega
  have hci : ¬ (c = i) := by omega
  have hz3 : (c : Int) < (n : Int) + 1 := by omega
  have hG63 : G ≤ 9223372036854775807 := by unfold maxLen at hGM; omega
  have hw1 : IntKind.i64.wrap ((i : Int) + 1) = (i : Int) + 1 := IntWalk.i64_in _ (by omega)
  have hw2 : IntKind.i64.wrap ((n : Int) + 1) = (n : Int) + 1 := IntWalk.i64_in _ (by omega)
  have hw3 : IntKind.i64.wrap ((n : Int) + 1 - (i : Int)) = (n : Int) + 1 - (i : Int) := IntWalk.i64_in _ (by omega)
  have hb1 : (0 : Int) ≤ (i : Int) + 1 := by omega
  have hin : i ≤ n := by omega
  have htn : ((i : Int) + 1).toNat = i + 1 := by omega
  have hb3 : (i : Int) ≤ (n : Int) := by omega
  have HW1 := Lib.hid hW1
  have HRAT := Lib.hid hRat
  have HR1 := Lib.hid hR1
  have HRS := Lib.hid hRs
  have HN := Lib.hid hN
  have HLM := Lib.hid hlm
  have HCB := Lib.hid hcpB
  have HCA := Lib.hid hcpA
  have HRZ := Lib.hid hrz
  clear hkk hik hold hROW hG hRs hRat hR1 hN hNf hOb hOv hcpA hcpB hrz hown hg hv hcl hvs hi0 hz0 hz1 hz2' hsz hdl h1c hcs hlm hW1 hln
  have hW1s : W1.heap.size = w.heap.size + 1 := by rw [HW1.out]; simp
  have hA1 := HCA.out W1 (fun _ => rfl) (fun _ => rfl) 3 (G - i)
  go_enter Try.func82, Try.ntmps82
  go_wp2_with (first
    | (at_builtin; refine Lib.wpList_append_run _ rfl _ _ _ _ rfl _ _ rfl rfl _ _ (HRZ.out _) ?_)
    | simp only [hA1])
  clear hA1
  refine wp_region_Tw [0, 1, 2, 3, 4, 5, 6, 7] [] (.lp 0 (.lp 1 (.lp 2 (.lp 3 (.lp 4 (.lp 5 (.lp 6 (.lp 7 (.hv 8 (.done)))))))))) (by kernel_rfl) (by kernel_rfl) ?_
  (repeat (first | (refine T_lp rfl (fun K hK => ?_); go_simp; refine hK _ ?_; clear hK K) | (refine T_ls rfl rfl (fun K hK => ?_); go_simp; refine hK _ ?_; clear hK K)))
  refine T_hv rfl (by kernel_rfl) (fun K hK => ?_)
  refine step_copy rfl (.tmp 50) (.tmp 53) 60 60 rfl (.slice (some ⟨w.heap.size, i + 1, none⟩) (n + 1 - (i + 1)) (G - (i + 1))) (.slice (some ⟨b, i, none⟩) (n - i) (c - i)) ?_ ?_ (HCB.out (W1.setCells w.heap.size i [I x]).drew (fun _ => rfl) (fun _ => rfl) _ _ _) ?_
  · simp [Act.eval]
  · simp [Act.eval]
  · (go_simp; refine hK _ _ ?_; clear hK K)
    refine T_done ?_
    go_wp2
    go_ret
    refine ⟨_, _, rfl, ?_, ?_⟩
    · have hg1 : W1.heap[w.heap.size]? = some (.cells ROW 3 (0, 0)) := by rw [HW1.out]; exact Array.getElem?_push_size
      obtain ⟨cu1, hc1', hs1⟩ := setCells_heap w.heap.size [I x] i W1 ROW _ hg1
      obtain ⟨cu2, hc2', hs2⟩ := setCells_heap w.heap.size ((l.map I).drop i) (i + 1) (W1.setCells w.heap.size i [I x]).drew cu1 _ hc1'
      have hdl : ((l.map I).drop i).length = l.length - i := by simp
      have hll : l.length = n := by have h := HLM.out; simpa using h
      refine own_cells_mk hB hc2' (by have := HRS.out; omega) hGn hGM (by simp [insA_length l x (by omega : i ≤ l.length), hll]) (fun j hj => ?_)
      rw [insA_at l x (by omega : i ≤ l.length) j]
      by_cases h1 : j < i
      · rw [if_pos h1, World.cell?_setCells_out _ _ _ _ _ (fun _ _ => by simp; omega)]
        rw [show ((W1.setCells w.heap.size i [I x]).drew).cell? ⟨w.heap.size, j, none⟩ = (W1.setCells w.heap.size i [I x]).cell? ⟨w.heap.size, j, none⟩ from rfl, World.cell?_setCells_out _ _ _ _ _ (fun _ _ => by simp; omega), HR1.out, HRAT.out j h1]
      · rw [if_neg h1]
        by_cases h2 : j = i
        · subst h2
          rw [if_pos rfl, World.cell?_setCells_out _ _ _ _ _ (fun _ _ => by simp)]
          rw [show ((W1.setCells w.heap.size j [I x]).drew).cell? ⟨w.heap.size, j, none⟩ = (W1.setCells w.heap.size j [I x]).cell? ⟨w.heap.size, j, none⟩ from rfl]
          have h := World.cell?_setCells_in w.heap.size [I x] j W1 (fun t ht => HN.out (j + t) (by simp at ht; omega)) 0 (by simp)
          rw [Nat.add_zero] at h
          rw [h]
          rfl
        · rw [if_neg h2]
          have h := World.cell?_setCells_in w.heap.size ((l.map I).drop i) (i + 1) (W1.setCells w.heap.size i [I x]).drew (fun t ht => isSome_set _ _ _ _ (fun t' ht' => HN.out _ (by simp at ht'; omega)) _ (HN.out _ (by omega))) (j - (i + 1)) (by omega)
          rw [show i + 1 + (j - (i + 1)) = j by omega] at h
          rw [h, List.getElem_drop, List.getElem?_eq_getElem (by simp; omega)]
          congr 2
          omega
    · refine setCells_below hB _ _ _ _ ?_
      refine (setCells_below hB _ _ _ _ ?_).drew
      rw [HW1.out]
      exact (Below.refl _ _).drew.alloc hB _
end Go.Proofs.Ytbbjgcagkmlngac
