/- append of a whole slice, which may have no elements, onto an own slice; copies of lists. -/
import Derived.Test.YtbohakifjmdoiabDoorBase2
import Derived.Test.YtbohakifjmdoiabDoorFa
import Derived.Maps.AppendAt
namespace Go.Proofs.YtbohakifjmdoiabDoor
open Go.RowKit

section
variable {ops : Array Oper} {o : Oper} {a : Act} {Q : Exit → Act → World → Prop} {w : World} {T e : TypeId} {z : Value} {bts : Nat}

/-- append(v, xs...): m elements of sz cells, out of a slice that reads. -/
theorem step_appM {K : Act → World → Prop} {E : Prop} {sz : Nat} (ht : Tryd.prog.underlying T = some (.slice e)) (hinf : (Tryd.prog.info? e).map (fun i => (i.zero, i.size, i.bytes)) = some (some z, sz, bts)) (hz : z.cells.size = sz) (hs0 : 0 < sz) (hb : bts ≤ 64)
    (hgd : o.guard = none) (s x : Operand) (ho : o.op = .call { callee := .builtin .append, args := #[s, x], argTypes := #[T, T] })
    (B n : Nat) (v : Value) (xs : List Value) (hs : a.eval s = v) (hown : w.ownsRow B e sz v n xs) (A : Option Addr) (m c : Nat) (news : List Value) (hx : a.eval x = .slice A m c)
    {C : Nat} (hr : Rd w C sz A m news) (h1 : ∀ u ∈ news, u.oneCell' = true) (hn : n + m ≤ 4000000) (hB : B ≤ w.heap.size)
    (h : ∀ A' c' w', w'.ownsRow B e sz (.slice A' (n + m) c') (n + m) (xs ++ news) → w.grownBy w' v.ownBlock → Below B w w' → K (a.put o.dst (.slice A' (n + m) c')) w') :
    if Region.wanted o (yielded ops a.tmps) = true then Oper.wp Tryd.prog o a w K Q else E := by
  obtain ⟨i0, hi, hz0, hz1, hz2⟩ := info_parts hinf
  by_cases hm : 0 < m
  · obtain ⟨b, off, rfl, hbl, hc⟩ := hr.2 hm
    refine step_append_lies _ hgd s x _ ho B e i0 z sz bts ht hi hz0 hz1 hz2 hz hs0 v n xs hs hown ⟨b, off, none⟩ m c news hx hr.1 ?_ h1 hm (by unfold maxLen; omega) (by
      have : (n + m) * bts ≤ 4000000 * 64 := Nat.mul_le_mul (by omega) hb
      omega) hB w.heap.size rfl ?_
    · intro j y hj
      have hlt : j < m * sz := by rw [← hr.1]; exact (List.getElem?_eq_some_iff.1 hj).1
      have e0 : (⟨b, off, none⟩ : Addr).add j = ⟨b, off + j, none⟩ := by unfold Addr.add; split <;> simp_all
      rw [e0, hc j hlt, hj]
    · intro g cap w' hown' hg _ _
      exact h _ cap w' hown' hg (below_of_own hown hB hg)
  · have hm0 : m = 0 := by omega
    subst hm0
    have hnil : news = [] := by have := hr.1; simpa using this
    subst hnil
    have hw : Region.wanted o (yielded ops a.tmps) = true := by simp [Region.wanted, hgd]
    rw [if_pos hw]
    have key : ∃ v' w', (Builtin.append_ #[T, T] o.type #[v, .slice A 0 c]).run Tryd.prog w = .ok v' w' ∧ w'.ownsRow B e sz v' (n + 0) (xs ++ []) ∧ w.grownBy w' v.ownBlock := by
      cases A with
      | some ad =>
        obtain ⟨v', w', hr', h2, h3, _⟩ := run_append_own_at (P := Tryd.prog) w B T o.type e i0 z sz bts ht hi hz0 hz1 hz2 hz hs0 v n xs hown ad 0 c [] (by simp) (fun j u hu => by simp at hu) (by simp) (by unfold maxLen; omega) (by
          have : (n + 0) * bts ≤ 4000000 * 64 := Nat.mul_le_mul (by omega) hb
          omega) hB
        exact ⟨v', w', hr', h2, h3⟩
      | none =>
        obtain ⟨A0, c0, rfl, hle⟩ := own_form hown
        refine ⟨.slice A0 n c0, w, ?_, by simpa using hown, World.grownBy.refl _ _⟩
        cases A0 <;> simp [Builtin.append_, run_underlying ht, sizeOf, typeInfo, hi, hle, storeCells, Builtin.lenOf, Builtin.firstCells, Value.cells]
    obtain ⟨v', w', hr', h2, h3⟩ := key
    obtain ⟨A', c', rfl, _⟩ := own_form h2
    unfold Oper.wp execOp
    simp only [ho, resolve, invoke, builtin, Sem.run_bind, Sem.run_pure, Result.andThen_ok, List.map_toArray, List.map_cons, List.map_nil, hs, hx, hr']
    exact h A' c' w' h2 h3 (below_of_own hown hB h3)
end

theorem ints_one (l : List Int) : ∀ u ∈ l.map I, u.oneCell' = true := by
  intro u hu
  obtain ⟨_, _, rfl⟩ := List.mem_map.1 hu
  rfl
theorem fl_one (s : List (Int × Int)) : ∀ u ∈ fl s, u.oneCell' = true := by
  intro u hu
  simp only [fl, List.mem_flatMap, List.mem_cons, List.not_mem_nil, or_false] at hu
  obtain ⟨p, _, h⟩ := hu
  rcases h with rfl | rfl <;> rfl
/-- A new block without cells. -/
theorem own_empty {w : World} {B : Nat} {e : TypeId} (sz : Nat) (hB : B ≤ w.heap.size) : (w.alloc (.cells #[] e)).ownsRow B e sz (.slice (some ⟨w.heap.size, 0, none⟩) 0 0) 0 [] := by
  have h := World.ownsRow_lit (base := B) (e := e) (size := sz) w #[] 0 hB (by unfold maxLen; omega) (by simp)
  simpa using h

end Go.Proofs.YtbohakifjmdoiabDoor
