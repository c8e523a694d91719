/- A region that draws its order of evaluation, walked once along a tree: what yields its value in whatever world (or in every world of a class S) goes first; what writes comes in the one order that is left, or in each of two. -/
import Derived.OrdersHeld
import Derived.Deep.RegionHeld3
import Derived.KernelRfl
namespace Go.Proofs.YtbohakifjmdoiabDoor

/-- Operation j waits, perhaps through others, for operation k. -/
def anc (ops : Array Oper) : Nat → Nat → Nat → Bool
  | 0, _, _ => false
  | f + 1, k, j => match ops[j]? with
    | some oj => oj.after.any fun e => Region.binds .any e && (e.on == k || anc ops f k e.on)
    | none => false

/-- Behind operation j the class S must be shown anew: an operation of SL may come up before or behind it. -/
def needS (ops : Array Oper) (SL : List Nat) (j : Nat) : Bool :=
  SL.any fun i => i != j && !anc ops ops.size i j && !anc ops ops.size j i

def Closed (ops : Array Oper) (listed : Array Bool) : Prop :=
  ∀ j oj, ops[j]? = some oj → listed.getD j false = true → ∀ e ∈ oj.after, Region.binds .any e = true → listed.getD e.on false = true

section
variable {P : Program} {ops : Array Oper} {Q : Exit → Act → World → Prop} {S : World → Prop} {LL SL : List Nat}

theorem anc_listed {listed : Array Bool} (hc : Closed ops listed) : ∀ (f k j : Nat), (∀ oj, ops[j]? = some oj → ∀ e ∈ oj.after, Region.binds .any e = true → listed.getD e.on false = true) →
    anc ops f k j = true → listed.getD k false = true := by
  intro f
  induction f with
  | zero => intro k j _ h; simp [anc] at h
  | succ f ih =>
    intro k j hj h
    unfold anc at h
    cases ho : ops[j]? with
    | none => rw [ho] at h; simp at h
    | some oj =>
      rw [ho] at h
      obtain ⟨e, he, hb⟩ := Array.any_eq_true'.1 h
      simp only [Bool.and_eq_true, Bool.or_eq_true, beq_iff_eq] at hb
      have h1 := hj oj ho e he hb.1
      rcases hb.2 with rfl | h2
      · exact h1
      · exact ih k e.on (fun oj' ho' e' he' hb' => hc _ oj' ho' h1 e' he' hb') h2

theorem not_anc {listed : Array Bool} (hc : Closed ops listed) {i j : Nat} (hi : i ∈ Region.ready .any ops listed) (hj : j ∈ Region.ready .any ops listed) : anc ops ops.size i j = false := by
  cases h : anc ops ops.size i j with
  | false => rfl
  | true =>
    obtain ⟨_, oj, hoj, hall⟩ := mem_ready.1 hj
    have h1 := anc_listed hc ops.size i j (fun oj' ho' => by rw [hoj] at ho'; injection ho' with ho'; subst ho'; exact hall) h
    have h0 := (mem_ready.1 hi).1
    rcases Nat.lt_or_ge i listed.size with hlt | hge
    · simp [hlt] at h0 h1; rw [h0] at h1; cases h1
    · simp [Array.getElem?_eq_none hge] at h1

theorem closed_set {listed : Array Bool} (hc : Closed ops listed) {i : Nat} (hi : i ∈ Region.ready .any ops listed) : Closed ops (listed.setIfInBounds i true) := by
  intro j oj hj hl e he hb
  by_cases hij : i = j
  · subst hij
    obtain ⟨_, o', ho', hall⟩ := mem_ready.1 hi
    rw [hj] at ho'
    injection ho' with ho'
    subst ho'
    exact getD_set_true (hall e he hb)
  · rw [getD_set_ne false hij] at hl
    exact getD_set_true (hc j oj hj hl e he hb)

/-- What is known of the world behind operation i. -/
def kp (ops : Array Oper) (S : World → Prop) (LL SL : List Nat) (i : Nat) (w w' : World) : Prop :=
  if LL.contains i = true then w' = w else (needS ops SL i = true → S w')

def wpAnyK (P : Program) (ops : Array Oper) (Q : Exit → Act → World → Prop) (S : World → Prop) (LL SL : List Nat) : Nat → Array Bool → Act → World → Prop
  | 0, listed, a, w => Region.ready .any ops listed = [] ∧ Q .normal a w
  | fuel + 1, listed, a, w =>
    (Region.ready .any ops listed = [] → Q .normal a w) ∧
    ∀ i ∈ Region.ready .any ops listed, wpOp P ops Q i (fun a' w' => kp ops S LL SL i w w' ∧ wpAnyK P ops Q S LL SL fuel (listed.setIfInBounds i true) a' w') a w

theorem wpAny_of_K : ∀ (fuel : Nat) (listed : Array Bool) (a : Act) (w : World), wpAnyK P ops Q S LL SL fuel listed a w → wpAny P .any ops Q fuel listed a w
  | 0, _, _, _, h => h
  | fuel + 1, _, _, _, h => ⟨h.1, fun i hi => wpOp_mono (fun a' w' h' => wpAny_of_K fuel _ a' w' h'.2) (h.2 i hi)⟩

theorem wpAnyK_first {C : World → Prop} {i : Nat} {oi : Oper} {v : Value} (hi : ops[i]? = some oi) (hsel : ∀ (j : Nat) (o : Oper) cs b, ops[j]? = some o → o.op ≠ .select cs b)
    (hQ : ∀ c a w, Q (.panic c) (a.put oi.dst v) w → Q (.panic c) a w) (hL : LL.contains i = true) (hC : (∀ x, C x) ∨ (i ∈ SL ∧ ∀ x, S x → C x)) :
    ∀ (fuel : Nat) (listed : Array Bool) (a : Act) (w : World), Closed ops listed →
      (∀ j oj, ops[j]? = some oj → j ≠ i → listed.getD j true = false → (∀ e ∈ oj.after, Region.binds .any e = true → e.on ≠ i) → oi.apart ops oj = true) →
      i ∈ Region.ready .any ops listed → YieldsIf P ops C oi v a → C w →
      wpAnyK P ops Q S LL SL fuel (listed.setIfInBounds i true) (a.put oi.dst v) w → wpAnyK P ops Q S LL SL (fuel + 1) listed a w := by
  have hkp : ∀ w, kp ops S LL SL i w w := fun w => by unfold kp; rw [if_pos hL]
  intro fuel
  induction fuel with
  | zero =>
    intro listed a w _ _ hr hy hw H
    refine ⟨fun h => (by rw [h] at hr; cases hr), fun j hj => ?_⟩
    by_cases hji : j = i
    · subst hji; exact hy.wpOp hi hw ⟨hkp w, H⟩
    · have := ready_mono hj hji
      rw [H.1] at this
      cases this
  | succ fuel ih =>
    intro listed a w hcl hfree hr hy hw H
    refine ⟨fun h => (by rw [h] at hr; cases hr), fun j hj => ?_⟩
    by_cases hji : j = i
    · subst hji; exact hy.wpOp hi hw ⟨hkp w, H⟩
    · have h1 := H.2 j (ready_mono hj hji)
      obtain ⟨hjun, oj, hoj, hall⟩ := mem_ready.1 hj
      have hnot : ∀ e ∈ oj.after, Region.binds .any e = true → e.on ≠ i := fun e he hb heq => by
        have h1 := hall e he hb
        have h0 := (mem_ready.1 hr).1
        rw [heq] at h1
        rcases Nat.lt_or_ge i listed.size with h' | h'
        · simp [h'] at h0 h1; rw [h0] at h1; cases h1
        · simp [Array.getElem?_eq_none h'] at h1
      have h2 := wpOp_putIf hoj (hfree j oj hoj hji hjun hnot) (fun cs b => hsel i oi cs b hi) (fun cs b => hsel j oj cs b hoj) hQ hy h1
      refine wpOp_mono (fun a' w' h3 => ⟨h3.2.1, ih (listed.setIfInBounds j true) a' w' (closed_set hcl hj) ?_ (ready_mono hr (Ne.symm hji)) h3.1 ?_ ?_⟩) h2
      · intro k ok hk hki hun hno
        refine hfree k ok hk hki ?_ hno
        by_cases hjk : j = k
        · subst hjk; exact hjun
        · rw [getD_set_ne true hjk] at hun; exact hun
      · rcases hC with hC | ⟨hm, hC⟩
        · exact hC _
        · have hk := h3.2.1
          unfold kp at hk
          split at hk
          · rw [hk]; exact hw
          · refine hC _ (hk ?_)
            unfold needS
            rw [List.any_eq_true]
            refine ⟨i, hm, ?_⟩
            rw [not_anc hcl hr hj, not_anc hcl hj hr]
            simp [Ne.symm hji]
      · rw [Array.setIfInBounds_comm _ _ hji]
        exact h3.2.2
end

/-- The walk's tree: a pure operation, one of the class, one that writes, two that write in either order. -/
inductive Tr where
  | done
  | lp (i : Nat) (t : Tr)
  | ls (i : Nat) (t : Tr)
  | hv (i : Nat) (t : Tr)
  | hv2 (i : Nat) (t : Tr) (j : Nat) (u : Tr)

def okT (ops : Array Oper) (LL SL : List Nat) : Nat → Tr → Array Bool → Bool
  | _, .done, l => (Region.ready .any ops l).isEmpty
  | 0, _, _ => false
  | f + 1, .lp i t, l => LL.contains i && (Region.ready .any ops l).contains i && Region.free .any ops l i && okT ops LL SL f t (l.setIfInBounds i true)
  | f + 1, .ls i t, l => LL.contains i && SL.contains i && (Region.ready .any ops l).contains i && Region.free .any ops l i && okT ops LL SL f t (l.setIfInBounds i true)
  | f + 1, .hv i t, l => !LL.contains i && (Region.ready .any ops l == [i]) && okT ops LL SL f t (l.setIfInBounds i true)
  | f + 1, .hv2 i t j u, l => !LL.contains i && !LL.contains j && (Region.ready .any ops l == [i, j]) && okT ops LL SL f t (l.setIfInBounds i true) && okT ops LL SL f u (l.setIfInBounds j true)

/-- One value in every world of the class C. -/
def vq (P : Program) (o : Oper) (a : Act) (C : World → Prop) (K : Act → Prop) : Prop :=
  ∃ v, (∀ x, C x → (execOp a.eval o).run P x = .ok (.value v) x) ∧ K (a.put o.dst v)

def lq (P : Program) (ops : Array Oper) (C : World → Prop) (i : Nat) (K : Act → Prop) (a : Act) : Prop :=
  ∃ o, ops[i]? = some o ∧ if Region.wanted o (yielded ops a.tmps) = true then vq P o a C K else K (a.put o.dst undef)

def wpT (P : Program) (ops : Array Oper) (Q : Exit → Act → World → Prop) (S : World → Prop) (SL : List Nat) : Tr → Act → World → Prop
  | .done, a, w => Q .normal a w
  | .lp i t, a, w => lq P ops (fun _ => True) i (fun a' => wpT P ops Q S SL t a' w) a
  | .ls i t, a, w => S w ∧ lq P ops S i (fun a' => wpT P ops Q S SL t a' w) a
  | .hv i t, a, w => wpOp P ops Q i (fun a' w' => (needS ops SL i = true → S w') ∧ wpT P ops Q S SL t a' w') a w
  | .hv2 i t j u, a, w => wpOp P ops Q i (fun a' w' => (needS ops SL i = true → S w') ∧ wpT P ops Q S SL t a' w') a w ∧
      wpOp P ops Q j (fun a' w' => (needS ops SL j = true → S w') ∧ wpT P ops Q S SL u a' w') a w

section
variable {P : Program} {ops : Array Oper} {Q : Exit → Act → World → Prop} {S : World → Prop} {LL SL : List Nat}

theorem lq_yields {C : World → Prop} {i : Nat} {K : Act → Prop} {a : Act} (h : lq P ops C i K a) : ∃ o v, ops[i]? = some o ∧ YieldsIf P ops C o v a ∧ K (a.put o.dst v) := by
  obtain ⟨o, ho, h⟩ := h
  split at h
  · rename_i hw
    obtain ⟨v, h1, h2⟩ := h
    exact ⟨o, v, ho, .inl ⟨hw, h1⟩, h2⟩
  · rename_i hw
    exact ⟨o, undef, ho, .inr ⟨by simpa using hw, rfl⟩, h⟩

theorem wpAnyK_of_T (hsel : Region.noSelect ops = true) (hQ : ∀ c d v a w, Q (.panic c) (a.put d v) w → Q (.panic c) a w) :
    ∀ (f : Nat) (t : Tr) (listed : Array Bool) (a : Act) (w : World), Closed ops listed → okT ops LL SL f t listed = true → wpT P ops Q S SL t a w → wpAnyK P ops Q S LL SL f listed a w := by
  intro f
  induction f with
  | zero =>
    intro t listed a w _ hok h
    cases t with
    | done => exact ⟨by simpa [okT] using hok, h⟩
    | _ => simp [okT] at hok
  | succ f ih =>
    intro t listed a w hcl hok h
    cases t with
    | done =>
      have h0 : Region.ready .any ops listed = [] := by simpa [okT] using hok
      exact ⟨fun _ => h, by rw [h0]; simp⟩
    | lp i t =>
      simp only [okT, Bool.and_eq_true] at hok
      obtain ⟨⟨⟨hL, hr⟩, hf⟩, hok⟩ := hok
      have hr' : i ∈ Region.ready .any ops listed := by simpa using hr
      obtain ⟨o, v, ho, hy, hk⟩ := lq_yields h
      exact wpAnyK_first ho (Region.noSelect_spec hsel) (fun c a w => hQ c _ v a w) hL (.inl fun _ => trivial) f listed a w hcl (Region.free_spec ho hf) hr' hy trivial (ih t _ _ _ (closed_set hcl hr') hok hk)
    | ls i t =>
      simp only [okT, Bool.and_eq_true] at hok
      obtain ⟨⟨⟨⟨hL, hS⟩, hr⟩, hf⟩, hok⟩ := hok
      have hr' : i ∈ Region.ready .any ops listed := by simpa using hr
      obtain ⟨hSw, h⟩ := h
      obtain ⟨o, v, ho, hy, hk⟩ := lq_yields h
      exact wpAnyK_first ho (Region.noSelect_spec hsel) (fun c a w => hQ c _ v a w) hL (.inr ⟨by simpa using hS, fun _ h => h⟩) f listed a w hcl (Region.free_spec ho hf) hr' hy hSw (ih t _ _ _ (closed_set hcl hr') hok hk)
    | hv i t =>
      simp only [okT, Bool.and_eq_true, Bool.not_eq_true', beq_iff_eq] at hok
      obtain ⟨⟨hL, hr⟩, hok⟩ := hok
      refine ⟨fun h0 => (by rw [hr] at h0; cases h0), fun j hj => ?_⟩
      have hj' : j = i := by rw [hr] at hj; simpa using hj
      subst hj'
      exact wpOp_mono (fun a' w' h' => ⟨by unfold kp; rw [if_neg (by simp only [hL]; decide)]; exact h'.1, ih t _ _ _ (closed_set hcl hj) hok h'.2⟩) h
    | hv2 i t k u =>
      simp only [okT, Bool.and_eq_true, Bool.not_eq_true', beq_iff_eq] at hok
      obtain ⟨⟨⟨⟨hL, hL2⟩, hr⟩, hok⟩, hok2⟩ := hok
      refine ⟨fun h0 => (by rw [hr] at h0; cases h0), fun j hj => ?_⟩
      have hj' : j = i ∨ j = k := by rw [hr] at hj; simpa using hj
      rcases hj' with rfl | rfl
      · exact wpOp_mono (fun a' w' h' => ⟨by unfold kp; rw [if_neg (by simp only [hL]; decide)]; exact h'.1, ih t _ _ _ (closed_set hcl hj) hok h'.2⟩) h.1
      · exact wpOp_mono (fun a' w' h' => ⟨by unfold kp; rw [if_neg (by simp only [hL2]; decide)]; exact h'.1, ih u _ _ _ (closed_set hcl hj) hok2 h'.2⟩) h.2

theorem closed_none : Closed ops (Array.replicate ops.size false) := by
  intro j oj _ hl
  exfalso
  by_cases h : j < ops.size <;> simp [h] at hl

/-- THE RULE. -/
theorem wp_region_T {id : Nat} {a : Act} {w : World} {l : List Oper} (S : World → Prop) (LL SL : List Nat) (t : Tr) (hm : P.follows .mixedOrders = true)
    (hok : (Region.noSelect l.toArray && okT l.toArray LL SL l.toArray.size t (Array.replicate l.toArray.size false)) = true)
    (h : wpT P l.toArray (NoPanic Q) S SL t a w.drew) : (Code.region id l.toArray true).wp P Q a w := by
  simp only [Bool.and_eq_true] at hok
  exact wp_region_noPanic (wp_region_any hm (wpAny_of_K _ _ _ _ (wpAnyK_of_T hok.1 (fun _ _ _ _ _ h => h) _ t _ a _ closed_none hok.2 h)))

/-- THE RULE where every load comes ahead of all that writes: the class is the world itself. -/
theorem wp_region_Tw {id : Nat} {a : Act} {w : World} {l : List Oper} (LL SL : List Nat) (t : Tr) (hm : P.follows .mixedOrders = true)
    (hok : (Region.noSelect l.toArray && okT l.toArray LL SL l.toArray.size t (Array.replicate l.toArray.size false)) = true)
    (h : wpT P l.toArray (NoPanic Q) (fun x => x = w.drew) SL t a w.drew) : (Code.region id l.toArray true).wp P Q a w := wp_region_T _ LL SL t hm hok h

theorem T_done {a : Act} {w : World} (h : Q .normal a w) : wpT P ops (NoPanic Q) S SL .done a w := h
theorem T_lp {i : Nat} {t : Tr} {o : Oper} {a : Act} {w : World} (ho : ops[i]? = some o)
    (h : ∀ K : Act → Prop, (∀ a, wpT P ops Q S SL t a w → K a) → if Region.wanted o (yielded ops a.tmps) = true then vq P o a (fun _ => True) K else K (a.put o.dst undef)) : wpT P ops Q S SL (.lp i t) a w :=
  ⟨o, ho, h _ fun _ h => h⟩
theorem T_ls {i : Nat} {t : Tr} {o : Oper} {a : Act} {w : World} (ho : ops[i]? = some o) (hS : S w)
    (h : ∀ K : Act → Prop, (∀ a, wpT P ops Q S SL t a w → K a) → if Region.wanted o (yielded ops a.tmps) = true then vq P o a S K else K (a.put o.dst undef)) : wpT P ops Q S SL (.ls i t) a w :=
  ⟨hS, o, ho, h _ fun _ h => h⟩
/-- A load of the class, its value found by the walk. -/
theorem T_ls1 {i : Nat} {t : Tr} {o : Oper} {a : Act} {w : World} {v : Value} (ho : ops[i]? = some o) (hg : o.guard = none) (hS : S w)
    (hv : ∀ x, S x → (execOp a.eval o).run P x = .ok (.value v) x) (h : ∀ K : Act → Prop, (∀ a, wpT P ops Q S SL t a w → K a) → K (a.put o.dst v)) : wpT P ops Q S SL (.ls i t) a w :=
  ⟨hS, o, ho, by rw [if_pos (by simp [Region.wanted, hg])]; exact ⟨v, hv, h _ fun _ h => h⟩⟩
/-- An operation that writes; the class need not be shown behind it. -/
theorem T_hv {i : Nat} {t : Tr} {o : Oper} {a : Act} {w : World} (ho : ops[i]? = some o) (hn : needS ops SL i = false)
    (h : ∀ K : Act → World → Prop, (∀ a w, wpT P ops Q S SL t a w → K a w) → if Region.wanted o (yielded ops a.tmps) = true then o.wp P a w K Q else K (a.put o.dst undef) w) : wpT P ops Q S SL (.hv i t) a w := by
  have h1 := h (fun a' w' => (needS ops SL i = true → S w') ∧ wpT P ops Q S SL t a' w') (fun a' w' h' => ⟨fun hh => (by rw [hn] at hh; cases hh), h'⟩)
  show wpOp P ops Q i _ a w
  unfold wpOp
  simp only [ho]
  split
  · rename_i hw; rw [if_pos hw] at h1; exact .inl h1
  · rename_i hw; rw [if_neg hw] at h1; exact h1
/-- An operation that writes, and behind which the class is shown anew. -/
theorem T_hvS {i : Nat} {t : Tr} {o : Oper} {a : Act} {w : World} (ho : ops[i]? = some o)
    (h : ∀ K : Act → World → Prop, (∀ a w, S w → wpT P ops Q S SL t a w → K a w) → if Region.wanted o (yielded ops a.tmps) = true then o.wp P a w K Q else K (a.put o.dst undef) w) : wpT P ops Q S SL (.hv i t) a w := by
  have h1 := h (fun a' w' => (needS ops SL i = true → S w') ∧ wpT P ops Q S SL t a' w') (fun a' w' hs h' => ⟨fun _ => hs, h'⟩)
  show wpOp P ops Q i _ a w
  unfold wpOp
  simp only [ho]
  split
  · rename_i hw; rw [if_pos hw] at h1; exact .inl h1
  · rename_i hw; rw [if_neg hw] at h1; exact h1
theorem T_hv2 {i j : Nat} {t u : Tr} {a : Act} {w : World} (h1 : wpT P ops Q S SL (.hv i t) a w) (h2 : wpT P ops Q S SL (.hv j u) a w) : wpT P ops Q S SL (.hv2 i t j u) a w := ⟨h1, h2⟩
end
attribute [go_sem] vq
end Go.Proofs.YtbohakifjmdoiabDoor
