/- A region that draws its order of evaluation, inside a fence (a round of a range over a function): the tree walk of Region, every operation inside the fence. -/
import Derived.Test.YtbohakifjmdoiabDoorRegion
import Derived.OrdersIn
import Derived.TacticsIn
namespace Go.Proofs.YtbohakifjmdoiabDoor

def noDefer (ops : Array Oper) : Bool := ops.toList.all fun o => match o.op with | .defer _ => false | _ => true
theorem noDefer_spec {ops : Array Oper} (h : noDefer ops = true) (j : Nat) (o : Oper) (ho : ops[j]? = some o) : ∀ c, o.op ≠ .defer c := by
  intro c hc
  unfold noDefer at h
  rw [List.all_eq_true] at h
  have hm : o ∈ ops.toList := by
    rw [Array.mem_toList_iff]
    exact Array.mem_of_getElem? ho
  have := h o hm
  rw [hc] at this
  cases this

theorem sem_plain (F : Fence) (ρ : Operand → Value) (o : Oper) (h : ∀ c, o.op ≠ .defer c) : o.semAt F.round ρ = execOp ρ o := Oper.semAt_eq F.round ρ o h

section
variable {F : Fence} {n : Nat} {P : Program} {ops : Array Oper} {Q : Exit → Act → World → Prop} {S : World → Prop}

theorem yIn_wpOpIn {i : Nat} {o : Oper} {v : Value} {a : Act} (hF : ∀ f, F.fn f) (hdf : ∀ c, o.op ≠ .defer c) (hi : ops[i]? = some o) (hy : YieldsIf P ops S o v a)
    {K : Act → World → Prop} {w : World} (hS : S w) (h : K (a.put o.dst v) w) : wpOpIn F n P ops Q i K a w := by
  unfold Go.wpOpIn
  simp only [hi]
  rcases hy with ⟨hw, hv⟩ | ⟨hw, rfl⟩
  · simp only [hw, if_true, Oper.wpIn, sem_plain F _ o hdf, hv w hS, Oper.uponIn]; exact ⟨fun f _ => hF f, h⟩
  · simp only [hw, Bool.false_eq_true, if_false]; exact ⟨fun f _ => hF f, h⟩

theorem wpOpIn_putIf {j : Nat} {oi oj : Oper} {v : Value} (hF : ∀ f, F.fn f) (hdf : ∀ c, oj.op ≠ .defer c) (hj : ops[j]? = some oj) (hap : oi.apart ops oj = true)
    (hsi : ∀ cs b, oi.op ≠ .select cs b) (hsj : ∀ cs b, oj.op ≠ .select cs b)
    (hQ : ∀ c a w, Q (.panic c) (a.put oi.dst v) w → Q (.panic c) a w) {K : Act → World → Prop} {a : Act} {w : World}
    (hy : YieldsIf P ops S oi v a) (h : wpOpIn F n P ops Q j K (a.put oi.dst v) w) :
    wpOpIn F n P ops Q j (fun a' w' => YieldsIf P ops S oi v a' ∧ K (a'.put oi.dst v) w') a w := by
  obtain ⟨h1, h2, h3⟩ := Oper.apart_spec hap
  have keep : ∀ (a : Act), YieldsIf P ops S oi v a → ∀ u, YieldsIf P ops S oi v (a.put oj.dst u) := fun a hy u =>
    hy.of_same (execOp_put oi hsi a oj.dst u h3) (wanted_put oi a oj.dst u h3)
  have keepD : ∀ d, YieldsIf P ops S oi v { a with defers := d :: a.defers } := fun d => hy.of_same rfl rfl
  unfold wpOpIn at *
  simp only [hj] at *
  rw [wanted_put oj a oi.dst v h1] at h
  split
  · rename_i hw
    simp only [hw, if_true] at h
    unfold Oper.wpIn at *
    refine ⟨fun f _ => hF f, ?_⟩
    have h := h.2
    rw [sem_plain F _ oj hdf, execOp_put oj hsj a oi.dst v h1] at h
    rw [sem_plain F _ oj hdf]
    generalize (execOp a.eval oj).run P w = r at *
    cases r with
    | ok x w' =>
      cases x <;> simp only [Oper.uponIn] at h ⊢
      case value u => exact ⟨keep a hy u, by rw [← Act.put_comm a v u h2]; exact h⟩
      case skip => exact ⟨keep a hy _, by rw [← Act.put_comm a v undef h2]; exact h⟩
      case defer d =>
        refine ⟨keep _ (keepD d) _, ?_⟩
        rw [← Act.put_comm _ v undef h2, ← Act.put_defers]
        exact h
      case enter f args =>
        refine ⟨h.1, CallsIn.mono h.2 fun e w'' he => ?_⟩
        cases e with
        | returned u => exact ⟨keep a hy u, by rw [← Act.put_comm a v u h2]; exact he⟩
        | panicked c => exact hQ _ _ _ he
        | outgrown => exact he
      case row row args => exact ⟨h.1, RowsIn.mono h.2 fun u w'' he => ⟨keep a hy u, by rw [← Act.put_comm a v u h2]; exact he⟩⟩
      case round l f tmps assign body =>
        refine ⟨h.1, RoundIn.mono h.2 fun e w'' he => ?_⟩
        cases e with
        | returned u => exact ⟨keep a hy u, by rw [← Act.put_comm a v u h2]; exact he⟩
        | panicked c => exact hQ _ _ _ he
        | outgrown => exact he
    | halt x w' =>
      cases x <;> simp only [Oper.uponIn] at h ⊢
      case panic u => exact hQ _ _ _ h
  · rename_i hw
    simp only [hw] at h
    exact ⟨fun f _ => hF f, keep a hy _, by rw [← Act.put_comm a v undef h2]; exact h.2⟩
end

section
variable {F : Fence} {n : Nat} {P : Program} {ops : Array Oper} {Q : Exit → Act → World → Prop} {S : World → Prop} {LL SL : List Nat}

def wpAnyJ (F : Fence) (n : Nat) (P : Program) (ops : Array Oper) (Q : Exit → Act → World → Prop) (S : World → Prop) (LL SL : List Nat) : Nat → Array Bool → Act → World → Prop
  | 0, listed, a, w => Region.ready .any ops listed = [] ∧ Q .normal a w
  | fuel + 1, listed, a, w =>
    (Region.ready .any ops listed = [] → Q .normal a w) ∧
    ∀ i ∈ Region.ready .any ops listed, wpOpIn F n P ops Q i (fun a' w' => kp ops S LL SL i w w' ∧ wpAnyJ F n P ops Q S LL SL fuel (listed.setIfInBounds i true) a' w') a w

theorem wpAnyIn_of_J : ∀ (fuel : Nat) (listed : Array Bool) (a : Act) (w : World), wpAnyJ F n P ops Q S LL SL fuel listed a w → wpAnyIn F n P .any ops Q fuel listed a w
  | 0, _, _, _, h => h
  | fuel + 1, _, _, _, h => ⟨h.1, fun i hi => wpOpIn_mono (fun a' w' h' => wpAnyIn_of_J fuel _ a' w' h'.2) (h.2 i hi)⟩

theorem wpAnyJ_first {C : World → Prop} {i : Nat} {oi : Oper} {v : Value} (hi : ops[i]? = some oi) (hF : ∀ f, F.fn f) (hdf : ∀ (j : Nat) (o : Oper), ops[j]? = some o → ∀ c, o.op ≠ .defer c) (hsel : ∀ (j : Nat) (o : Oper) cs b, ops[j]? = some o → o.op ≠ .select cs b)
    (hQ : ∀ c a w, Q (.panic c) (a.put oi.dst v) w → Q (.panic c) a w) (hL : LL.contains i = true) (hC : (∀ x, C x) ∨ (i ∈ SL ∧ ∀ x, S x → C x)) :
    ∀ (fuel : Nat) (listed : Array Bool) (a : Act) (w : World), Closed ops listed →
      (∀ j oj, ops[j]? = some oj → j ≠ i → listed.getD j true = false → (∀ e ∈ oj.after, Region.binds .any e = true → e.on ≠ i) → oi.apart ops oj = true) →
      i ∈ Region.ready .any ops listed → YieldsIf P ops C oi v a → C w →
      wpAnyJ F n P ops Q S LL SL fuel (listed.setIfInBounds i true) (a.put oi.dst v) w → wpAnyJ F n P ops Q S LL SL (fuel + 1) listed a w := by
  have hkp : ∀ w, kp ops S LL SL i w w := fun w => by unfold kp; rw [if_pos hL]
  intro fuel
  induction fuel with
  | zero =>
    intro listed a w _ _ hr hy hw H
    refine ⟨fun h => (by rw [h] at hr; cases hr), fun j hj => ?_⟩
    by_cases hji : j = i
    · subst hji; exact yIn_wpOpIn hF (hdf _ oi hi) hi hy hw ⟨hkp w, H⟩
    · have := ready_mono hj hji
      rw [H.1] at this
      cases this
  | succ fuel ih =>
    intro listed a w hcl hfree hr hy hw H
    refine ⟨fun h => (by rw [h] at hr; cases hr), fun j hj => ?_⟩
    by_cases hji : j = i
    · subst hji; exact yIn_wpOpIn hF (hdf _ oi hi) hi hy hw ⟨hkp w, H⟩
    · have h1 := H.2 j (ready_mono hj hji)
      obtain ⟨hjun, oj, hoj, hall⟩ := mem_ready.1 hj
      have hnot : ∀ e ∈ oj.after, Region.binds .any e = true → e.on ≠ i := fun e he hb heq => by
        have h1 := hall e he hb
        have h0 := (mem_ready.1 hr).1
        rw [heq] at h1
        rcases Nat.lt_or_ge i listed.size with h' | h'
        · simp [h'] at h0 h1; rw [h0] at h1; cases h1
        · simp [Array.getElem?_eq_none h'] at h1
      have h2 := wpOpIn_putIf hF (hdf j oj hoj) hoj (hfree j oj hoj hji hjun hnot) (fun cs b => hsel i oi cs b hi) (fun cs b => hsel j oj cs b hoj) hQ hy h1
      refine wpOpIn_mono (fun a' w' h3 => ⟨h3.2.1, ih (listed.setIfInBounds j true) a' w' (closed_set hcl hj) ?_ (ready_mono hr (Ne.symm hji)) h3.1 ?_ ?_⟩) h2
      · intro k ok hk hki hun hno
        refine hfree k ok hk hki ?_ hno
        by_cases hjk : j = k
        · subst hjk; exact hjun
        · rw [getD_set_ne true hjk] at hun; exact hun
      · rcases hC with hC | ⟨hm, hC⟩
        · exact hC _
        · have hk := h3.2.1
          unfold kp at hk
          split at hk
          · rw [hk]; exact hw
          · refine hC _ (hk ?_)
            unfold needS
            rw [List.any_eq_true]
            refine ⟨i, hm, ?_⟩
            rw [not_anc hcl hr hj, not_anc hcl hj hr]
            simp [Ne.symm hji]
      · rw [Array.setIfInBounds_comm _ _ hji]
        exact h3.2.2
end

def wpJ (F : Fence) (n : Nat) (P : Program) (ops : Array Oper) (Q : Exit → Act → World → Prop) (S : World → Prop) (SL : List Nat) : Tr → Act → World → Prop
  | .done, a, w => Q .normal a w
  | .lp i t, a, w => lq P ops (fun _ => True) i (fun a' => wpJ F n P ops Q S SL t a' w) a
  | .ls i t, a, w => S w ∧ lq P ops S i (fun a' => wpJ F n P ops Q S SL t a' w) a
  | .hv i t, a, w => wpOpIn F n P ops Q i (fun a' w' => (needS ops SL i = true → S w') ∧ wpJ F n P ops Q S SL t a' w') a w
  | .hv2 i t j u, a, w => wpOpIn F n P ops Q i (fun a' w' => (needS ops SL i = true → S w') ∧ wpJ F n P ops Q S SL t a' w') a w ∧
      wpOpIn F n P ops Q j (fun a' w' => (needS ops SL j = true → S w') ∧ wpJ F n P ops Q S SL u a' w') a w

section
variable {F : Fence} {n : Nat} {P : Program} {ops : Array Oper} {Q : Exit → Act → World → Prop} {S : World → Prop} {LL SL : List Nat}

theorem wpAnyJ_of_T (hF : ∀ f, F.fn f) (hdf : ∀ (j : Nat) (o : Oper), ops[j]? = some o → ∀ c, o.op ≠ .defer c) (hsel : Region.noSelect ops = true) (hQ : ∀ c d v a w, Q (.panic c) (a.put d v) w → Q (.panic c) a w) :
    ∀ (f : Nat) (t : Tr) (listed : Array Bool) (a : Act) (w : World), Closed ops listed → okT ops LL SL f t listed = true → wpJ F n P ops Q S SL t a w → wpAnyJ F n P ops Q S LL SL f listed a w := by
  intro f
  induction f with
  | zero =>
    intro t listed a w _ hok h
    cases t with
    | done => exact ⟨by simpa [okT] using hok, h⟩
    | _ => simp [okT] at hok
  | succ f ih =>
    intro t listed a w hcl hok h
    cases t with
    | done =>
      have h0 : Region.ready .any ops listed = [] := by simpa [okT] using hok
      exact ⟨fun _ => h, by rw [h0]; simp⟩
    | lp i t =>
      simp only [okT, Bool.and_eq_true] at hok
      obtain ⟨⟨⟨hL, hr⟩, hf⟩, hok⟩ := hok
      have hr' : i ∈ Region.ready .any ops listed := by simpa using hr
      obtain ⟨o, v, ho, hy, hk⟩ := lq_yields h
      exact wpAnyJ_first ho hF hdf (Region.noSelect_spec hsel) (fun c a w => hQ c _ v a w) hL (.inl fun _ => trivial) f listed a w hcl (Region.free_spec ho hf) hr' hy trivial (ih t _ _ _ (closed_set hcl hr') hok hk)
    | ls i t =>
      simp only [okT, Bool.and_eq_true] at hok
      obtain ⟨⟨⟨⟨hL, hS⟩, hr⟩, hf⟩, hok⟩ := hok
      have hr' : i ∈ Region.ready .any ops listed := by simpa using hr
      obtain ⟨hSw, h⟩ := h
      obtain ⟨o, v, ho, hy, hk⟩ := lq_yields h
      exact wpAnyJ_first ho hF hdf (Region.noSelect_spec hsel) (fun c a w => hQ c _ v a w) hL (.inr ⟨by simpa using hS, fun _ h => h⟩) f listed a w hcl (Region.free_spec ho hf) hr' hy hSw (ih t _ _ _ (closed_set hcl hr') hok hk)
    | hv i t =>
      simp only [okT, Bool.and_eq_true, Bool.not_eq_true', beq_iff_eq] at hok
      obtain ⟨⟨hL, hr⟩, hok⟩ := hok
      refine ⟨fun h0 => (by rw [hr] at h0; cases h0), fun j hj => ?_⟩
      have hj' : j = i := by rw [hr] at hj; simpa using hj
      subst hj'
      exact wpOpIn_mono (fun a' w' h' => ⟨by unfold kp; rw [if_neg (by simp only [hL]; decide)]; exact h'.1, ih t _ _ _ (closed_set hcl hj) hok h'.2⟩) h
    | hv2 i t k u =>
      simp only [okT, Bool.and_eq_true, Bool.not_eq_true', beq_iff_eq] at hok
      obtain ⟨⟨⟨⟨hL, hL2⟩, hr⟩, hok⟩, hok2⟩ := hok
      refine ⟨fun h0 => (by rw [hr] at h0; cases h0), fun j hj => ?_⟩
      have hj' : j = i ∨ j = k := by rw [hr] at hj; simpa using hj
      rcases hj' with rfl | rfl
      · exact wpOpIn_mono (fun a' w' h' => ⟨by unfold kp; rw [if_neg (by simp only [hL]; decide)]; exact h'.1, ih t _ _ _ (closed_set hcl hj) hok h'.2⟩) h.1
      · exact wpOpIn_mono (fun a' w' h' => ⟨by unfold kp; rw [if_neg (by simp only [hL2]; decide)]; exact h'.1, ih u _ _ _ (closed_set hcl hj) hok2 h'.2⟩) h.2

/-- THE RULE. -/
theorem wp_region_J (hF : ∀ f, F.fn f) {id : Nat} {a : Act} {w : World} {l : List Oper} (S : World → Prop) (LL SL : List Nat) (t : Tr) (hm : P.follows .mixedOrders = true)
    (hok : (noDefer l.toArray && Region.noSelect l.toArray && okT l.toArray LL SL l.toArray.size t (Array.replicate l.toArray.size false)) = true)
    (h : wpJ F n P l.toArray (NoPanic Q) S SL t a w.drew) : (Code.region id l.toArray true).wpIn F n P Q a w := by
  simp only [Bool.and_eq_true] at hok
  exact Code.wpIn_mono NoPanic.imp (wpIn_region_any hm (wpAnyIn_of_J _ _ _ _ (wpAnyJ_of_T hF (noDefer_spec hok.1.1) hok.1.2 (fun _ _ _ _ _ h => h) _ t _ a _ closed_none hok.2 h)))

/-- THE RULE where every load comes ahead of all that writes: the class is the world itself. -/
theorem wp_region_Jw (hF : ∀ f, F.fn f) {id : Nat} {a : Act} {w : World} {l : List Oper} (LL SL : List Nat) (t : Tr) (hm : P.follows .mixedOrders = true)
    (hok : (noDefer l.toArray && Region.noSelect l.toArray && okT l.toArray LL SL l.toArray.size t (Array.replicate l.toArray.size false)) = true)
    (h : wpJ F n P l.toArray (NoPanic Q) (fun x => x = w.drew) SL t a w.drew) : (Code.region id l.toArray true).wpIn F n P Q a w := wp_region_J hF _ LL SL t hm hok h

theorem J_done {a : Act} {w : World} (h : Q .normal a w) : wpJ F n P ops (NoPanic Q) S SL .done a w := h
theorem J_lp {i : Nat} {t : Tr} {o : Oper} {a : Act} {w : World} (ho : ops[i]? = some o)
    (h : ∀ K : Act → Prop, (∀ a, wpJ F n P ops Q S SL t a w → K a) → if Region.wanted o (yielded ops a.tmps) = true then vq P o a (fun _ => True) K else K (a.put o.dst undef)) : wpJ F n P ops Q S SL (.lp i t) a w :=
  ⟨o, ho, h _ fun _ h => h⟩
theorem J_ls {i : Nat} {t : Tr} {o : Oper} {a : Act} {w : World} (ho : ops[i]? = some o) (hS : S w)
    (h : ∀ K : Act → Prop, (∀ a, wpJ F n P ops Q S SL t a w → K a) → if Region.wanted o (yielded ops a.tmps) = true then vq P o a S K else K (a.put o.dst undef)) : wpJ F n P ops Q S SL (.ls i t) a w :=
  ⟨hS, o, ho, h _ fun _ h => h⟩
/-- A load of the class, its value found by the walk. -/
theorem J_ls1 {i : Nat} {t : Tr} {o : Oper} {a : Act} {w : World} {v : Value} (ho : ops[i]? = some o) (hg : o.guard = none) (hS : S w)
    (hv : ∀ x, S x → (execOp a.eval o).run P x = .ok (.value v) x) (h : ∀ K : Act → Prop, (∀ a, wpJ F n P ops Q S SL t a w → K a) → K (a.put o.dst v)) : wpJ F n P ops Q S SL (.ls i t) a w :=
  ⟨hS, o, ho, by rw [if_pos (by simp [Region.wanted, hg])]; exact ⟨v, hv, h _ fun _ h => h⟩⟩
/-- An operation that writes; the class need not be shown behind it. -/
theorem J_hv {i : Nat} {t : Tr} {o : Oper} {a : Act} {w : World} (ho : ops[i]? = some o) (hn : needS ops SL i = false)
    (h : ∀ K : Act → World → Prop, (∀ a w, wpJ F n P ops Q S SL t a w → K a w) → if Region.wanted o (yielded ops a.tmps) = true then o.wpIn F n P a w K Q else (∀ f, o.about P w a.eval = some f → F.fn f) ∧ K (a.put o.dst undef) w) : wpJ F n P ops Q S SL (.hv i t) a w := by
  have h1 := h (fun a' w' => (needS ops SL i = true → S w') ∧ wpJ F n P ops Q S SL t a' w') (fun a' w' h' => ⟨fun hh => (by rw [hn] at hh; cases hh), h'⟩)
  show wpOpIn F n P ops Q i _ a w
  unfold wpOpIn
  simp only [ho]
  exact h1
/-- An operation that writes, and behind which the class is shown anew. -/
theorem J_hvS {i : Nat} {t : Tr} {o : Oper} {a : Act} {w : World} (ho : ops[i]? = some o)
    (h : ∀ K : Act → World → Prop, (∀ a w, S w → wpJ F n P ops Q S SL t a w → K a w) → if Region.wanted o (yielded ops a.tmps) = true then o.wpIn F n P a w K Q else (∀ f, o.about P w a.eval = some f → F.fn f) ∧ K (a.put o.dst undef) w) : wpJ F n P ops Q S SL (.hv i t) a w := by
  have h1 := h (fun a' w' => (needS ops SL i = true → S w') ∧ wpJ F n P ops Q S SL t a' w') (fun a' w' hs h' => ⟨fun _ => hs, h'⟩)
  show wpOpIn F n P ops Q i _ a w
  unfold wpOpIn
  simp only [ho]
  exact h1
theorem J_hv2 {i j : Nat} {t u : Tr} {a : Act} {w : World} (h1 : wpJ F n P ops Q S SL (.hv i t) a w) (h2 : wpJ F n P ops Q S SL (.hv j u) a w) : wpJ F n P ops Q S SL (.hv2 i t j u) a w := ⟨h1, h2⟩
end
end Go.Proofs.YtbohakifjmdoiabDoor
