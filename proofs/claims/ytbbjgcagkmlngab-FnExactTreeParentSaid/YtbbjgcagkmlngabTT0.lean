/- Joined: Region Base Base2 Sa Sb Sc Ia Ib Ic Id Ma La Lb Ea Fa Ap Mk Ml Op Mm Ql. -/
import Derived.OrdersHeld
import Derived.Deep.RegionHeld3
import Derived.KernelRfl
import Derived.Test.YtbbjgcagkmlngabProg
import Derived.WalkKit
import Derived.WalkSpells
import Derived.WalkLawsBesides
import Derived.Handy
import Derived.Lib.Hide
import Derived.BigQuiet
import Derived.Deep.QuietTactic
import Derived.Deep.AppendLies
import Derived.Deep.LoopGhost
import Derived.StillTailTactics
import Derived.Deep.DeepFit
import Derived.CellFam
import Derived.Deep.DeepCutAuto
import Derived.Deep.OwnRows
import Derived.LoopN
import Derived.Maps.AppendAt
import Derived.Test.YtbbjgcagkmlngabRows
import Derived.ProofKit
import Derived.OpenShut
import Derived.Carry
import Derived.Deep.Slices
import Derived.Lib.SmallJoins
/- A region that draws its order of evaluation, walked once along a tree: what yields its value in whatever world (or in every world of a class S) goes first; what writes comes in the one order that is left, or in each of two. -/
namespace Go.Proofs.Ytbbjgcagkmlngab

/-- Operation j waits, perhaps through others, for operation k. -/
def anc (ops : Array Oper) : Nat → Nat → Nat → Bool
  | 0, _, _ => false
  | f + 1, k, j => match ops[j]? with
    | some oj => oj.after.any fun e => Region.binds .any e && (e.on == k || anc ops f k e.on)
    | none => false

/-- Behind operation j the class S must be shown anew: an operation of SL may come up before or behind it. -/
def needS (ops : Array Oper) (SL : List Nat) (j : Nat) : Bool :=
  SL.any fun i => i != j && !anc ops ops.size i j && !anc ops ops.size j i

def Closed (ops : Array Oper) (listed : Array Bool) : Prop :=
  ∀ j oj, ops[j]? = some oj → listed.getD j false = true → ∀ e ∈ oj.after, Region.binds .any e = true → listed.getD e.on false = true

section
variable {P : Program} {ops : Array Oper} {Q : Exit → Act → World → Prop} {S : World → Prop} {LL SL : List Nat}

theorem anc_listed {listed : Array Bool} (hc : Closed ops listed) : ∀ (f k j : Nat), (∀ oj, ops[j]? = some oj → ∀ e ∈ oj.after, Region.binds .any e = true → listed.getD e.on false = true) →
    anc ops f k j = true → listed.getD k false = true := by
  intro f
  induction f with
  | zero => intro k j _ h; simp [anc] at h
  | succ f ih =>
    intro k j hj h
    unfold anc at h
    cases ho : ops[j]? with
    | none => rw [ho] at h; simp at h
    | some oj =>
      rw [ho] at h
      obtain ⟨e, he, hb⟩ := Array.any_eq_true'.1 h
      simp only [Bool.and_eq_true, Bool.or_eq_true, beq_iff_eq] at hb
      have h1 := hj oj ho e he hb.1
      rcases hb.2 with rfl | h2
      · exact h1
      · exact ih k e.on (fun oj' ho' e' he' hb' => hc _ oj' ho' h1 e' he' hb') h2

theorem not_anc {listed : Array Bool} (hc : Closed ops listed) {i j : Nat} (hi : i ∈ Region.ready .any ops listed) (hj : j ∈ Region.ready .any ops listed) : anc ops ops.size i j = false := by
  cases h : anc ops ops.size i j with
  | false => rfl
  | true =>
    obtain ⟨_, oj, hoj, hall⟩ := mem_ready.1 hj
    have h1 := anc_listed hc ops.size i j (fun oj' ho' => by rw [hoj] at ho'; injection ho' with ho'; subst ho'; exact hall) h
    have h0 := (mem_ready.1 hi).1
    rcases Nat.lt_or_ge i listed.size with hlt | hge
    · simp [hlt] at h0 h1; rw [h0] at h1; cases h1
    · simp [Array.getElem?_eq_none hge] at h1

theorem closed_set {listed : Array Bool} (hc : Closed ops listed) {i : Nat} (hi : i ∈ Region.ready .any ops listed) : Closed ops (listed.setIfInBounds i true) := by
  intro j oj hj hl e he hb
  by_cases hij : i = j
  · subst hij
    obtain ⟨_, o', ho', hall⟩ := mem_ready.1 hi
    rw [hj] at ho'
    injection ho' with ho'
    subst ho'
    exact getD_set_true (hall e he hb)
  · rw [getD_set_ne false hij] at hl
    exact getD_set_true (hc j oj hj hl e he hb)

/-- What is known of the world behind operation i. -/
def kp (ops : Array Oper) (S : World → Prop) (LL SL : List Nat) (i : Nat) (w w' : World) : Prop :=
  if LL.contains i = true then w' = w else (needS ops SL i = true → S w')

def wpAnyK (P : Program) (ops : Array Oper) (Q : Exit → Act → World → Prop) (S : World → Prop) (LL SL : List Nat) : Nat → Array Bool → Act → World → Prop
  | 0, listed, a, w => Region.ready .any ops listed = [] ∧ Q .normal a w
  | fuel + 1, listed, a, w =>
    (Region.ready .any ops listed = [] → Q .normal a w) ∧
    ∀ i ∈ Region.ready .any ops listed, wpOp P ops Q i (fun a' w' => kp ops S LL SL i w w' ∧ wpAnyK P ops Q S LL SL fuel (listed.setIfInBounds i true) a' w') a w

theorem wpAny_of_K : ∀ (fuel : Nat) (listed : Array Bool) (a : Act) (w : World), wpAnyK P ops Q S LL SL fuel listed a w → wpAny P .any ops Q fuel listed a w
  | 0, _, _, _, h => h
  | fuel + 1, _, _, _, h => ⟨h.1, fun i hi => wpOp_mono (fun a' w' h' => wpAny_of_K fuel _ a' w' h'.2) (h.2 i hi)⟩

theorem wpAnyK_first {C : World → Prop} {i : Nat} {oi : Oper} {v : Value} (hi : ops[i]? = some oi) (hsel : ∀ (j : Nat) (o : Oper) cs b, ops[j]? = some o → o.op ≠ .select cs b)
    (hQ : ∀ c a w, Q (.panic c) (a.put oi.dst v) w → Q (.panic c) a w) (hL : LL.contains i = true) (hC : (∀ x, C x) ∨ (i ∈ SL ∧ ∀ x, S x → C x)) :
    ∀ (fuel : Nat) (listed : Array Bool) (a : Act) (w : World), Closed ops listed →
      (∀ j oj, ops[j]? = some oj → j ≠ i → listed.getD j true = false → (∀ e ∈ oj.after, Region.binds .any e = true → e.on ≠ i) → oi.apart ops oj = true) →
      i ∈ Region.ready .any ops listed → YieldsIf P ops C oi v a → C w →
      wpAnyK P ops Q S LL SL fuel (listed.setIfInBounds i true) (a.put oi.dst v) w → wpAnyK P ops Q S LL SL (fuel + 1) listed a w := by
  have hkp : ∀ w, kp ops S LL SL i w w := fun w => by unfold kp; rw [if_pos hL]
  intro fuel
  induction fuel with
  | zero =>
    intro listed a w _ _ hr hy hw H
    refine ⟨fun h => (by rw [h] at hr; cases hr), fun j hj => ?_⟩
    by_cases hji : j = i
    · subst hji; exact hy.wpOp hi hw ⟨hkp w, H⟩
    · have := ready_mono hj hji
      rw [H.1] at this
      cases this
  | succ fuel ih =>
    intro listed a w hcl hfree hr hy hw H
    refine ⟨fun h => (by rw [h] at hr; cases hr), fun j hj => ?_⟩
    by_cases hji : j = i
    · subst hji; exact hy.wpOp hi hw ⟨hkp w, H⟩
    · have h1 := H.2 j (ready_mono hj hji)
      obtain ⟨hjun, oj, hoj, hall⟩ := mem_ready.1 hj
      have hnot : ∀ e ∈ oj.after, Region.binds .any e = true → e.on ≠ i := fun e he hb heq => by
        have h1 := hall e he hb
        have h0 := (mem_ready.1 hr).1
        rw [heq] at h1
        rcases Nat.lt_or_ge i listed.size with h' | h'
        · simp [h'] at h0 h1; rw [h0] at h1; cases h1
        · simp [Array.getElem?_eq_none h'] at h1
      have h2 := wpOp_putIf hoj (hfree j oj hoj hji hjun hnot) (fun cs b => hsel i oi cs b hi) (fun cs b => hsel j oj cs b hoj) hQ hy h1
      refine wpOp_mono (fun a' w' h3 => ⟨h3.2.1, ih (listed.setIfInBounds j true) a' w' (closed_set hcl hj) ?_ (ready_mono hr (Ne.symm hji)) h3.1 ?_ ?_⟩) h2
      · intro k ok hk hki hun hno
        refine hfree k ok hk hki ?_ hno
        by_cases hjk : j = k
        · subst hjk; exact hjun
        · rw [getD_set_ne true hjk] at hun; exact hun
      · rcases hC with hC | ⟨hm, hC⟩
        · exact hC _
        · have hk := h3.2.1
          unfold kp at hk
          split at hk
          · rw [hk]; exact hw
          · refine hC _ (hk ?_)
            unfold needS
            rw [List.any_eq_true]
            refine ⟨i, hm, ?_⟩
            rw [not_anc hcl hr hj, not_anc hcl hj hr]
            simp [Ne.symm hji]
      · rw [Array.setIfInBounds_comm _ _ hji]
        exact h3.2.2
end

/-- The walk's tree: a pure operation, one of the class, one that writes, two that write in either order. -/
inductive Tr where
  | done
  | lp (i : Nat) (t : Tr)
  | ls (i : Nat) (t : Tr)
  | hv (i : Nat) (t : Tr)
  | hv2 (i : Nat) (t : Tr) (j : Nat) (u : Tr)

def okT (ops : Array Oper) (LL SL : List Nat) : Nat → Tr → Array Bool → Bool
  | _, .done, l => (Region.ready .any ops l).isEmpty
  | 0, _, _ => false
  | f + 1, .lp i t, l => LL.contains i && (Region.ready .any ops l).contains i && Region.free .any ops l i && okT ops LL SL f t (l.setIfInBounds i true)
  | f + 1, .ls i t, l => LL.contains i && SL.contains i && (Region.ready .any ops l).contains i && Region.free .any ops l i && okT ops LL SL f t (l.setIfInBounds i true)
  | f + 1, .hv i t, l => !LL.contains i && (Region.ready .any ops l == [i]) && okT ops LL SL f t (l.setIfInBounds i true)
  | f + 1, .hv2 i t j u, l => !LL.contains i && !LL.contains j && (Region.ready .any ops l == [i, j]) && okT ops LL SL f t (l.setIfInBounds i true) && okT ops LL SL f u (l.setIfInBounds j true)

/-- One value in every world of the class C. -/
def vq (P : Program) (o : Oper) (a : Act) (C : World → Prop) (K : Act → Prop) : Prop :=
  ∃ v, (∀ x, C x → (execOp a.eval o).run P x = .ok (.value v) x) ∧ K (a.put o.dst v)

def lq (P : Program) (ops : Array Oper) (C : World → Prop) (i : Nat) (K : Act → Prop) (a : Act) : Prop :=
  ∃ o, ops[i]? = some o ∧ if Region.wanted o (yielded ops a.tmps) = true then vq P o a C K else K (a.put o.dst undef)

def wpT (P : Program) (ops : Array Oper) (Q : Exit → Act → World → Prop) (S : World → Prop) (SL : List Nat) : Tr → Act → World → Prop
  | .done, a, w => Q .normal a w
  | .lp i t, a, w => lq P ops (fun _ => True) i (fun a' => wpT P ops Q S SL t a' w) a
  | .ls i t, a, w => S w ∧ lq P ops S i (fun a' => wpT P ops Q S SL t a' w) a
  | .hv i t, a, w => wpOp P ops Q i (fun a' w' => (needS ops SL i = true → S w') ∧ wpT P ops Q S SL t a' w') a w
  | .hv2 i t j u, a, w => wpOp P ops Q i (fun a' w' => (needS ops SL i = true → S w') ∧ wpT P ops Q S SL t a' w') a w ∧
      wpOp P ops Q j (fun a' w' => (needS ops SL j = true → S w') ∧ wpT P ops Q S SL u a' w') a w

section
variable {P : Program} {ops : Array Oper} {Q : Exit → Act → World → Prop} {S : World → Prop} {LL SL : List Nat}

theorem lq_yields {C : World → Prop} {i : Nat} {K : Act → Prop} {a : Act} (h : lq P ops C i K a) : ∃ o v, ops[i]? = some o ∧ YieldsIf P ops C o v a ∧ K (a.put o.dst v) := by
  obtain ⟨o, ho, h⟩ := h
  split at h
  · rename_i hw
    obtain ⟨v, h1, h2⟩ := h
    exact ⟨o, v, ho, .inl ⟨hw, h1⟩, h2⟩
  · rename_i hw
    exact ⟨o, undef, ho, .inr ⟨by simpa using hw, rfl⟩, h⟩

theorem wpAnyK_of_T (hsel : Region.noSelect ops = true) (hQ : ∀ c d v a w, Q (.panic c) (a.put d v) w → Q (.panic c) a w) :
    ∀ (f : Nat) (t : Tr) (listed : Array Bool) (a : Act) (w : World), Closed ops listed → okT ops LL SL f t listed = true → wpT P ops Q S SL t a w → wpAnyK P ops Q S LL SL f listed a w := by
  intro f
  induction f with
  | zero =>
    intro t listed a w _ hok h
    cases t with
    | done => exact ⟨by simpa [okT] using hok, h⟩
    | _ => simp [okT] at hok
  | succ f ih =>
    intro t listed a w hcl hok h
    cases t with
    | done =>
      have h0 : Region.ready .any ops listed = [] := by simpa [okT] using hok
      exact ⟨fun _ => h, by rw [h0]; simp⟩
    | lp i t =>
      simp only [okT, Bool.and_eq_true] at hok
      obtain ⟨⟨⟨hL, hr⟩, hf⟩, hok⟩ := hok
      have hr' : i ∈ Region.ready .any ops listed := by simpa using hr
      obtain ⟨o, v, ho, hy, hk⟩ := lq_yields h
      exact wpAnyK_first ho (Region.noSelect_spec hsel) (fun c a w => hQ c _ v a w) hL (.inl fun _ => trivial) f listed a w hcl (Region.free_spec ho hf) hr' hy trivial (ih t _ _ _ (closed_set hcl hr') hok hk)
    | ls i t =>
      simp only [okT, Bool.and_eq_true] at hok
      obtain ⟨⟨⟨⟨hL, hS⟩, hr⟩, hf⟩, hok⟩ := hok
      have hr' : i ∈ Region.ready .any ops listed := by simpa using hr
      obtain ⟨hSw, h⟩ := h
      obtain ⟨o, v, ho, hy, hk⟩ := lq_yields h
      exact wpAnyK_first ho (Region.noSelect_spec hsel) (fun c a w => hQ c _ v a w) hL (.inr ⟨by simpa using hS, fun _ h => h⟩) f listed a w hcl (Region.free_spec ho hf) hr' hy hSw (ih t _ _ _ (closed_set hcl hr') hok hk)
    | hv i t =>
      simp only [okT, Bool.and_eq_true, Bool.not_eq_true', beq_iff_eq] at hok
      obtain ⟨⟨hL, hr⟩, hok⟩ := hok
      refine ⟨fun h0 => (by rw [hr] at h0; cases h0), fun j hj => ?_⟩
      have hj' : j = i := by rw [hr] at hj; simpa using hj
      subst hj'
      exact wpOp_mono (fun a' w' h' => ⟨by unfold kp; rw [if_neg (by simp only [hL]; decide)]; exact h'.1, ih t _ _ _ (closed_set hcl hj) hok h'.2⟩) h
    | hv2 i t k u =>
      simp only [okT, Bool.and_eq_true, Bool.not_eq_true', beq_iff_eq] at hok
      obtain ⟨⟨⟨⟨hL, hL2⟩, hr⟩, hok⟩, hok2⟩ := hok
      refine ⟨fun h0 => (by rw [hr] at h0; cases h0), fun j hj => ?_⟩
      have hj' : j = i ∨ j = k := by rw [hr] at hj; simpa using hj
      rcases hj' with rfl | rfl
      · exact wpOp_mono (fun a' w' h' => ⟨by unfold kp; rw [if_neg (by simp only [hL]; decide)]; exact h'.1, ih t _ _ _ (closed_set hcl hj) hok h'.2⟩) h.1
      · exact wpOp_mono (fun a' w' h' => ⟨by unfold kp; rw [if_neg (by simp only [hL2]; decide)]; exact h'.1, ih u _ _ _ (closed_set hcl hj) hok2 h'.2⟩) h.2

theorem closed_none : Closed ops (Array.replicate ops.size false) := by
  intro j oj _ hl
  exfalso
  by_cases h : j < ops.size <;> simp [h] at hl

/-- THE RULE. -/
theorem wp_region_T {id : Nat} {a : Act} {w : World} {l : List Oper} (S : World → Prop) (LL SL : List Nat) (t : Tr) (hm : P.follows .mixedOrders = true)
    (hok : (Region.noSelect l.toArray && okT l.toArray LL SL l.toArray.size t (Array.replicate l.toArray.size false)) = true)
    (h : wpT P l.toArray (NoPanic Q) S SL t a w.drew) : (Code.region id l.toArray true).wp P Q a w := by
  simp only [Bool.and_eq_true] at hok
  exact wp_region_noPanic (wp_region_any hm (wpAny_of_K _ _ _ _ (wpAnyK_of_T hok.1 (fun _ _ _ _ _ h => h) _ t _ a _ closed_none hok.2 h)))

/-- THE RULE where every load comes ahead of all that writes: the class is the world itself. -/
theorem wp_region_Tw {id : Nat} {a : Act} {w : World} {l : List Oper} (LL SL : List Nat) (t : Tr) (hm : P.follows .mixedOrders = true)
    (hok : (Region.noSelect l.toArray && okT l.toArray LL SL l.toArray.size t (Array.replicate l.toArray.size false)) = true)
    (h : wpT P l.toArray (NoPanic Q) (fun x => x = w.drew) SL t a w.drew) : (Code.region id l.toArray true).wp P Q a w := wp_region_T _ LL SL t hm hok h

theorem T_done {a : Act} {w : World} (h : Q .normal a w) : wpT P ops (NoPanic Q) S SL .done a w := h
theorem T_lp {i : Nat} {t : Tr} {o : Oper} {a : Act} {w : World} (ho : ops[i]? = some o)
    (h : ∀ K : Act → Prop, (∀ a, wpT P ops Q S SL t a w → K a) → if Region.wanted o (yielded ops a.tmps) = true then vq P o a (fun _ => True) K else K (a.put o.dst undef)) : wpT P ops Q S SL (.lp i t) a w :=
  ⟨o, ho, h _ fun _ h => h⟩
theorem T_ls {i : Nat} {t : Tr} {o : Oper} {a : Act} {w : World} (ho : ops[i]? = some o) (hS : S w)
    (h : ∀ K : Act → Prop, (∀ a, wpT P ops Q S SL t a w → K a) → if Region.wanted o (yielded ops a.tmps) = true then vq P o a S K else K (a.put o.dst undef)) : wpT P ops Q S SL (.ls i t) a w :=
  ⟨hS, o, ho, h _ fun _ h => h⟩
/-- A load of the class, its value found by the walk. -/
theorem T_ls1 {i : Nat} {t : Tr} {o : Oper} {a : Act} {w : World} {v : Value} (ho : ops[i]? = some o) (hg : o.guard = none) (hS : S w)
    (hv : ∀ x, S x → (execOp a.eval o).run P x = .ok (.value v) x) (h : ∀ K : Act → Prop, (∀ a, wpT P ops Q S SL t a w → K a) → K (a.put o.dst v)) : wpT P ops Q S SL (.ls i t) a w :=
  ⟨hS, o, ho, by rw [if_pos (by simp [Region.wanted, hg])]; exact ⟨v, hv, h _ fun _ h => h⟩⟩
/-- An operation that writes; the class need not be shown behind it. -/
theorem T_hv {i : Nat} {t : Tr} {o : Oper} {a : Act} {w : World} (ho : ops[i]? = some o) (hn : needS ops SL i = false)
    (h : ∀ K : Act → World → Prop, (∀ a w, wpT P ops Q S SL t a w → K a w) → if Region.wanted o (yielded ops a.tmps) = true then o.wp P a w K Q else K (a.put o.dst undef) w) : wpT P ops Q S SL (.hv i t) a w := by
  have h1 := h (fun a' w' => (needS ops SL i = true → S w') ∧ wpT P ops Q S SL t a' w') (fun a' w' h' => ⟨fun hh => (by rw [hn] at hh; cases hh), h'⟩)
  show wpOp P ops Q i _ a w
  unfold wpOp
  simp only [ho]
  split
  · rename_i hw; rw [if_pos hw] at h1; exact .inl h1
  · rename_i hw; rw [if_neg hw] at h1; exact h1
/-- An operation that writes, and behind which the class is shown anew. -/
theorem T_hvS {i : Nat} {t : Tr} {o : Oper} {a : Act} {w : World} (ho : ops[i]? = some o)
    (h : ∀ K : Act → World → Prop, (∀ a w, S w → wpT P ops Q S SL t a w → K a w) → if Region.wanted o (yielded ops a.tmps) = true then o.wp P a w K Q else K (a.put o.dst undef) w) : wpT P ops Q S SL (.hv i t) a w := by
  have h1 := h (fun a' w' => (needS ops SL i = true → S w') ∧ wpT P ops Q S SL t a' w') (fun a' w' hs h' => ⟨fun _ => hs, h'⟩)
  show wpOp P ops Q i _ a w
  unfold wpOp
  simp only [ho]
  split
  · rename_i hw; rw [if_pos hw] at h1; exact .inl h1
  · rename_i hw; rw [if_neg hw] at h1; exact h1
theorem T_hv2 {i j : Nat} {t u : Tr} {a : Act} {w : World} (h1 : wpT P ops Q S SL (.hv i t) a w) (h2 : wpT P ops Q S SL (.hv j u) a w) : wpT P ops Q S SL (.hv2 i t j u) a w := ⟨h1, h2⟩
end
attribute [go_sem] vq
end Go.Proofs.Ytbbjgcagkmlngab
/- Words for memory that all proofs of this seat use: a slice that reads as a list; how it is kept. -/
namespace Go.Proofs.Ytbbjgcagkmlngab
open Go.RowKit

abbrev I (n : Int) : Value := .int .i64 n

/-- A slice with address A and n elements of sz cells each reads as xs; its block lies below B. -/
def Rd (w : World) (B sz : Nat) (A : Option Addr) (n : Nat) (xs : List Value) : Prop :=
  xs.length = n * sz ∧ (0 < n → ∃ b off, A = some ⟨b, off, none⟩ ∧ b < B ∧ ∀ j, j < n * sz → w.cell? ⟨b, off + j, none⟩ = xs[j]?)

section
variable {w w' : World} {B B' sz n : Nat} {A : Option Addr} {xs : List Value}

theorem Rd.keep (h : Rd w B sz A n xs) (hk : ∀ p : Addr, p.block < B → w'.cell? p = w.cell? p) : Rd w' B sz A n xs :=
  ⟨h.1, fun hn => by
    obtain ⟨b, off, e, hb, hc⟩ := h.2 hn
    exact ⟨b, off, e, hb, fun j hj => (hk ⟨b, off + j, none⟩ hb).trans (hc j hj)⟩⟩
theorem Rd.more (h : Rd w B sz A n xs) (hB : B ≤ B') : Rd w B' sz A n xs :=
  ⟨h.1, fun hn => by
    obtain ⟨b, off, e, hb, hc⟩ := h.2 hn
    exact ⟨b, off, e, by omega, hc⟩⟩
theorem Rd.below (h : Rd w B sz A n xs) (hb : Below B w w') : Rd w' B sz A n xs := h.keep fun _ hp => hb.cell hp
theorem Rd.below' {C : Nat} (h : Rd w B sz A n xs) (hb : Below C w w') (hC : B ≤ C) : Rd w' B sz A n xs := h.below (hb.mono hC)
theorem Rd.drewN (h : Rd w B sz A n xs) (k : Nat) : Rd (w.drewN k) B sz A n xs := h
theorem Rd.drew (h : Rd w B sz A n xs) : Rd w.drew B sz A n xs := h
theorem Rd.alloc (h : Rd w B sz A n xs) (hB : B ≤ w.heap.size) (o : Obj) : Rd (w.alloc o) B sz A n xs :=
  h.keep fun p hp => World.cell?_alloc_lt w o p (by omega)
theorem Rd.nil (w : World) (B sz : Nat) (A : Option Addr) : Rd w B sz A 0 [] := ⟨by simp, fun h => absurd h (by omega)⟩
theorem Rd.of_own {base : Nat} {e : TypeId} {c : Nat} (h : w.ownsRow base e sz (.slice A n c) n xs) : Rd w w.heap.size sz A n xs := by
  refine ⟨h.1, fun hn => ?_⟩
  rcases h.2 with ⟨_, h0⟩ | ⟨g, cap, cur, hv, _, hg, _, _, _, ht⟩
  · omega
  · simp only [Value.slice.injEq] at hv
    obtain ⟨rfl, _, rfl⟩ := hv
    refine ⟨g, 0, rfl, (Array.getElem?_eq_some_iff.1 hg).1, fun j hj => ?_⟩
    rw [Nat.zero_add]
    exact h.cellAt j hj

/-- The cell of element k of a slice of integers. -/
theorem Rd.int {l : List Int} (h : Rd w B 1 A l.length (l.map I)) {k : Nat} (hk : k < l.length) :
    ∃ b off, A = some ⟨b, off, none⟩ ∧ b < B ∧ w.cell? ⟨b, off + k, none⟩ = some (.int .i64 (l[k]'hk)) := by
  obtain ⟨b, off, e, hb, hc⟩ := h.2 (by omega)
  refine ⟨b, off, e, hb, ?_⟩
  rw [hc k (by omega)]
  simp [I, hk]
end

/-- The world after some draws. -/
def Dr (w w' : World) : Prop := ∃ n, w' = w.drewN n
theorem Dr.refl (w : World) : Dr w w := ⟨0, rfl⟩
theorem Dr.mk (w : World) (n : Nat) : Dr w (w.drewN n) := ⟨n, rfl⟩
theorem Dr.mk2 (w : World) (n m : Nat) : Dr w ((w.drewN n).drewN m) := ⟨n + m, by rw [World.drewN_drewN]⟩
theorem Dr.below {w w' : World} (h : Dr w w') (B : Nat) : Below B w w' := by
  obtain ⟨n, rfl⟩ := h
  exact ⟨rfl, rfl, rfl, Nat.le_refl _, fun _ _ => rfl⟩

theorem made_at (z : Value) (n k : Nat) (hk : k < n) : (madeCells #[z] n)[k]? = some z := by
  have h := toList_madeCells_one z n
  rw [← Array.getElem?_toList, h]
  simp [hk]

theorem ret_bool {a b : Bool} (h : a = b) : Ending.returned (.bool a) = .returned (.bool b) := by rw [h]
theorem info_int : (Try.prog.info? 3).map (fun i => (i.zero, i.size, i.bytes)) = some (some (.int .i64 0), 1, 8) := by kernel_rfl
theorem info_ints : (Try.prog.info? 22).map (fun i => (i.zero, i.size, i.bytes)) = some (some (.slice none 0 0), 1, 24) := by kernel_rfl
theorem info_step : (Try.prog.info? 114).map (fun i => (i.zero, i.size, i.bytes)) = some (some (.agg #[.int .i64 0, .int .i64 0]), 2, 16) := by kernel_rfl

/-- An own slice of integers. -/
def OwI (w : World) (B : Nat) (v : Value) (l : List Int) : Prop := w.ownsRow B 3 1 v l.length (l.map I)
theorem OwI.nil (w : World) (B : Nat) : OwI w B (.slice none 0 0) [] := World.ownsRow_nil _ _ _ _

theorem OwI.alloc {w : World} {B : Nat} {v : Value} {l : List Int} (h : OwI w B v l) (o : Obj) : OwI (w.alloc o) B v l := World.ownsRow.alloc h o
theorem OwI.drew {w : World} {B : Nat} {v : Value} {l : List Int} (h : OwI w B v l) : OwI w.drew B v l := h
theorem OwI.drewN {w : World} {B : Nat} {v : Value} {l : List Int} (h : OwI w B v l) (n : Nat) : OwI (w.drewN n) B v l := h

theorem below_of_own {w w' : World} {base e sz n : Nat} {v : Value} {xs : List Value} (h : w.ownsRow base e sz v n xs) (hb : base ≤ w.heap.size) (hg : w.grownBy w' v.ownBlock) : Below base w w' :=
  (Below.refl _ _).grown hg hb fun k hk => (h.lt k hk).1

section
variable {ops : Array Oper} {o : Oper} {a : Act} {Q : Exit → Act → World → Prop} {w : World}

/-- append(v, x) of one integer onto an own slice. -/
theorem step_app_int {K : Act → World → Prop} {E : Prop} (hgd : o.guard = none) (s x : Operand)
    (ho : o.op = .call { callee := .builtin .append, args := #[s, x], argTypes := #[22, 22] })
    (B n : Nat) (v : Value) (l : List Int) (hs : a.eval s = v) (hown : OwI w B v l) (hl : l.length = n) (b c : Nat) (u : Int) (hx : a.eval x = .slice (some ⟨b, 0, none⟩) 1 c)
    (hu : w.cell? ⟨b, 0, none⟩ = some (I u)) (hn : n ≤ 4000000) (hB : B ≤ w.heap.size)
    (h : ∀ A cap w', OwI w' B (.slice A (n + 1) cap) (l ++ [u]) → w.grownBy w' v.ownBlock → Below B w w' → K (a.put o.dst (.slice A (n + 1) cap)) w') :
    if Region.wanted o (yielded ops a.tmps) = true then Oper.wp Try.prog o a w K Q else E := by
  subst hl
  obtain ⟨i0, hi, hz0, hz1, hz2⟩ := info_parts info_int
  refine step_append_lies _ hgd s x _ ho B 3 i0 _ 1 8 Try.underlying22 hi hz0 hz1 hz2 rfl (by omega) v l.length (l.map I) hs hown ⟨b, 0, none⟩ 1 c [I u] hx rfl ?_ ?_ (by omega) (by unfold maxLen; omega) (by omega) hB w.heap.size rfl ?_
  · intro j y hj
    match j, hj with
    | 0, hj => simp at hj; subst hj; simpa [Addr.add] using hu
  · intro y hy; simp at hy; subst hy; rfl
  · intro g cap w' hown' hg _ _
    exact h _ cap w' (by simpa [OwI] using hown') hg (below_of_own hown hB hg)
theorem wpList_app_int {rest : List Oper} (hgd : o.guard = none) (s x : Operand)
    (ho : o.op = .call { callee := .builtin .append, args := #[s, x], argTypes := #[22, 22] })
    (B n : Nat) (v : Value) (l : List Int) (hs : a.eval s = v) (hown : OwI w B v l) (hl : l.length = n) (b c : Nat) (u : Int) (hx : a.eval x = .slice (some ⟨b, 0, none⟩) 1 c)
    (hu : w.cell? ⟨b, 0, none⟩ = some (I u)) (hn : n ≤ 4000000) (hB : B ≤ w.heap.size)
    (h : ∀ A cap w', OwI w' B (.slice A (n + 1) cap) (l ++ [u]) → w.grownBy w' v.ownBlock → Below B w w' → wpList Try.prog ops Q rest (a.put o.dst (.slice A (n + 1) cap)) w') :
    wpList Try.prog ops Q (o :: rest) a w :=
  wpList_step fun _ hK => step_app_int hgd s x ho B n v l hs hown hl b c u hx hu hn hB fun A cap w' h1 h2 h3 => hK _ _ (h A cap w' h1 h2 h3)
end

theorem ret_int {k : IntKind} {a b : Int} (h : a = b) : Ending.returned (.int k a) = .returned (.int k b) := by rw [h]
end Go.Proofs.Ytbbjgcagkmlngab
/- Own rows of slices and of steps; plans as values. -/
namespace Go.Proofs.Ytbbjgcagkmlngab
open Go.RowKit

section
variable {w w' : World} {B B' sz n : Nat} {e e' : TypeId} {v v' : Value} {xs xs' : List Value}

theorem own_same (h : w.ownsRow B e sz v n xs) (hk : ∀ k, k < w.heap.size → w'.heap[k]? = w.heap[k]?) : w'.ownsRow B e sz v n xs := by
  refine ⟨h.1, ?_⟩
  rcases h.2 with h0 | ⟨g, cap, cur, hv, hb, hg, r⟩
  · exact .inl h0
  · exact .inr ⟨g, cap, cur, hv, hb, by rw [hk g (Array.getElem?_eq_some_iff.1 hg).1]; exact hg, r⟩
theorem own_below (h : w.ownsRow B e sz v n xs) (hb : Below w.heap.size w w') : w'.ownsRow B e sz v n xs := own_same h hb.block
theorem own_below' {C : Nat} (h : w.ownsRow B e sz v n xs) (hb : Below C w w') (hC : w.heap.size ≤ C) : w'.ownsRow B e sz v n xs := own_below h (hb.mono hC)
theorem own_base (h : w.ownsRow B e sz v n xs) (hB : B' ≤ B) : w.ownsRow B' e sz v n xs := by
  refine ⟨h.1, ?_⟩
  rcases h.2 with h0 | ⟨g, cap, cur, hv, hb, r⟩
  · exact .inl h0
  · exact .inr ⟨g, cap, cur, hv, by omega, r⟩
/-- Rows of different element types lie apart. -/
theorem own_ne {n' : Nat} {sz' : Nat} (h : w.ownsRow B e sz v n xs) (h' : w.ownsRow B' e' sz' v' n' xs') (hne : e ≠ e') : v.ownBlock = none ∨ v.ownBlock ≠ v'.ownBlock := by
  rcases h.2 with ⟨rfl, _⟩ | ⟨g, cap, cur, rfl, _, hg, _⟩
  · exact .inl rfl
  · right
    rcases h'.2 with ⟨rfl, _⟩ | ⟨g', cap', cur', rfl, _, hg', _⟩
    · simp [Value.ownBlock]
    · simp only [Value.ownBlock, ne_eq, Option.some.injEq]
      intro hh
      subst hh
      rw [hg] at hg'
      injection hg' with hg'
      injection hg' with _ ht
      exact hne ht
/-- A store into a block of another type. -/
theorem own_set {g o : Nat} {cs : Array Value} {t : TypeId} (h : w.ownsRow B e sz v n xs) (hg : w.heap[g]? = some (.cells cs t (0, 0))) (ht : t ≠ e) (u : Value) : (w.setCell ⟨g, o, none⟩ u).ownsRow B e sz v n xs := by
  refine ⟨h.1, ?_⟩
  rcases h.2 with h0 | ⟨g', cap, cur, hv, hb, hg', r⟩
  · exact .inl h0
  · refine .inr ⟨g', cap, cur, hv, hb, ?_, r⟩
    rw [Below.heap_setCell _ _ _ _ (fun hh => by
      simp only at hh
      subst hh
      rw [hg] at hg'
      injection hg' with hg'
      injection hg' with _ hh
      exact ht hh)]
    exact hg'
theorem own_ne_blk {g : Nat} {cs : Array Value} {t : TypeId} (h : w.ownsRow B e sz v n xs) (hg : w.heap[g]? = some (.cells cs t (0, 0))) (ht : t ≠ e) : some g ≠ v.ownBlock := by
  rcases h.2 with ⟨rfl, _⟩ | ⟨g', cap, cur, rfl, _, hg', _⟩
  · simp [Value.ownBlock]
  · simp only [Value.ownBlock, ne_eq, Option.some.injEq]
    intro hh
    subst hh
    rw [hg] at hg'
    injection hg' with hg'
    injection hg' with _ hh
    exact ht hh
theorem grown_set {a : World} {g o : Nat} (h : a.grownBy w (some g)) (u : Value) : a.grownBy (w.setCell ⟨g, o, none⟩ u) (some g) :=
  ⟨h.os, h.tape, h.output, by simpa [World.setCell] using h.size, fun i hi hne => (Below.heap_setCell w ⟨g, o, none⟩ u i (fun e => hne (by rw [e]))).trans (h.block i hi hne)⟩
theorem own_form (h : w.ownsRow B e sz v n xs) : ∃ A c, v = .slice A n c ∧ n ≤ c := by
  rcases h.2 with ⟨rfl, rfl⟩ | ⟨g, cap, cur, rfl, _, _, hc, _⟩
  · exact ⟨_, _, rfl, Nat.le_refl _⟩
  · exact ⟨_, _, rfl, hc⟩
theorem own_block (h : w.ownsRow B e sz v n xs) : ∀ k, v.ownBlock = some k → B ≤ k ∧ k < w.heap.size := h.lt
/-- Of an own slice with elements: its block, its cells. -/
theorem own_at {A : Option Addr} {c : Nat} (h : w.ownsRow B e sz (.slice A n c) n xs) (hn : 0 < n) :
    ∃ g, A = some ⟨g, 0, none⟩ ∧ B ≤ g ∧ g < w.heap.size ∧ (∀ j, j < n * sz → w.cell? ⟨g, j, none⟩ = xs[j]?) ∧ ∀ j, w.frozen? ⟨g, j, none⟩ = false := by
  rcases h.2 with ⟨_, h0⟩ | ⟨g, cap, cur, hv, hb, hg, _⟩
  · omega
  · simp only [Value.slice.injEq] at hv
    obtain ⟨rfl, _, rfl⟩ := hv
    exact ⟨g, rfl, hb, (Array.getElem?_eq_some_iff.1 hg).1, fun j hj => h.cellAt j hj, fun j => h.frozenAt j⟩
end

theorem OwI.below {w w' : World} {B : Nat} {v : Value} {l : List Int} (h : OwI w B v l) (hb : Below w.heap.size w w') : OwI w' B v l := own_below h hb
theorem OwI.base {w : World} {B B' : Nat} {v : Value} {l : List Int} (h : OwI w B v l) (hB : B' ≤ B) : OwI w B' v l := own_base h hB
theorem OwI.rd {w : World} {B : Nat} {A : Option Addr} {c : Nat} {l : List Int} (h : OwI w B (.slice A l.length c) l) : Rd w w.heap.size 1 A l.length (l.map I) := Rd.of_own h

section
variable {ops : Array Oper} {o : Oper} {a : Act} {Q : Exit → Act → World → Prop} {w : World} {T e : TypeId} {z : Value} {bts : Nat}

/-- append(v, x): one element of one cell onto an own slice. -/
theorem step_app1 {K : Act → World → Prop} {E : Prop} (ht : Try.prog.underlying T = some (.slice e)) (hinf : (Try.prog.info? e).map (fun i => (i.zero, i.size, i.bytes)) = some (some z, 1, bts)) (hz : z.cells.size = 1) (hb : bts ≤ 64)
    (hgd : o.guard = none) (s x : Operand) (ho : o.op = .call { callee := .builtin .append, args := #[s, x], argTypes := #[T, T] })
    (B n : Nat) (v : Value) (xs : List Value) (hs : a.eval s = v) (hown : w.ownsRow B e 1 v n xs) (b c : Nat) (u : Value) (hx : a.eval x = .slice (some ⟨b, 0, none⟩) 1 c)
    (hu : w.cell? ⟨b, 0, none⟩ = some u) (h1 : u.oneCell' = true) (hn : n ≤ 4000000) (hB : B ≤ w.heap.size)
    (h : ∀ A cap w', w'.ownsRow B e 1 (.slice A (n + 1) cap) (n + 1) (xs ++ [u]) → w.grownBy w' v.ownBlock → Below B w w' → K (a.put o.dst (.slice A (n + 1) cap)) w') :
    if Region.wanted o (yielded ops a.tmps) = true then Oper.wp Try.prog o a w K Q else E := by
  obtain ⟨i0, hi, hz0, hz1, hz2⟩ := info_parts hinf
  refine step_append_lies _ hgd s x _ ho B e i0 z 1 bts ht hi hz0 hz1 hz2 hz (by omega) v n xs hs hown ⟨b, 0, none⟩ 1 c [u] hx rfl ?_ ?_ (by omega) (by unfold maxLen; omega) (by
    have : (n + 1) * bts ≤ 4000001 * 64 := Nat.mul_le_mul (by omega) hb
    omega) hB w.heap.size rfl ?_
  · intro j y hj
    match j, hj with
    | 0, hj => simp at hj; subst hj; simpa [Addr.add] using hu
  · intro y hy; simp at hy; subst hy; exact h1
  · intro g cap w' hown' hg _ _
    exact h _ cap w' hown' hg (below_of_own hown hB hg)
/-- append(v, x): one element of two cells. -/
theorem step_app2 {K : Act → World → Prop} {E : Prop} (ht : Try.prog.underlying T = some (.slice e)) (hinf : (Try.prog.info? e).map (fun i => (i.zero, i.size, i.bytes)) = some (some z, 2, bts)) (hz : z.cells.size = 2) (hb : bts ≤ 64)
    (hgd : o.guard = none) (s x : Operand) (ho : o.op = .call { callee := .builtin .append, args := #[s, x], argTypes := #[T, T] })
    (B n : Nat) (v : Value) (xs : List Value) (hs : a.eval s = v) (hown : w.ownsRow B e 2 v n xs) (b c : Nat) (u u' : Value) (hx : a.eval x = .slice (some ⟨b, 0, none⟩) 1 c)
    (hu : w.cell? ⟨b, 0, none⟩ = some u) (hu' : w.cell? ⟨b, 1, none⟩ = some u') (h1 : u.oneCell' = true) (h1' : u'.oneCell' = true) (hn : n ≤ 4000000) (hB : B ≤ w.heap.size)
    (h : ∀ A cap w', w'.ownsRow B e 2 (.slice A (n + 1) cap) (n + 1) (xs ++ [u, u']) → w.grownBy w' v.ownBlock → Below B w w' → K (a.put o.dst (.slice A (n + 1) cap)) w') :
    if Region.wanted o (yielded ops a.tmps) = true then Oper.wp Try.prog o a w K Q else E := by
  obtain ⟨i0, hi, hz0, hz1, hz2⟩ := info_parts hinf
  refine step_append_lies _ hgd s x _ ho B e i0 z 2 bts ht hi hz0 hz1 hz2 hz (by omega) v n xs hs hown ⟨b, 0, none⟩ 1 c [u, u'] hx rfl ?_ ?_ (by omega) (by unfold maxLen; omega) (by
    have : (n + 1) * bts ≤ 4000001 * 64 := Nat.mul_le_mul (by omega) hb
    omega) hB w.heap.size rfl ?_
  · intro j y hj
    match j, hj with
    | 0, hj => simp at hj; subst hj; simpa [Addr.add] using hu
    | 1, hj => simp at hj; subst hj; simpa [Addr.add] using hu'
  · intro y hy; simp at hy; rcases hy with rfl | rfl <;> assumption
  · intro g cap w' hown' hg _ _
    exact h _ cap w' hown' hg (below_of_own hown hB hg)
/-- append(v, x): one element of sz cells. -/
theorem step_appN {K : Act → World → Prop} {E : Prop} {sz : Nat} (ht : Try.prog.underlying T = some (.slice e)) (hinf : (Try.prog.info? e).map (fun i => (i.zero, i.size, i.bytes)) = some (some z, sz, bts)) (hz : z.cells.size = sz) (hs0 : 0 < sz) (hb : bts ≤ 64)
    (hgd : o.guard = none) (s x : Operand) (ho : o.op = .call { callee := .builtin .append, args := #[s, x], argTypes := #[T, T] })
    (B n : Nat) (v : Value) (xs : List Value) (hs : a.eval s = v) (hown : w.ownsRow B e sz v n xs) (b c : Nat) (news : List Value) (hx : a.eval x = .slice (some ⟨b, 0, none⟩) 1 c)
    (hl : news.length = sz) (hu : ∀ j, j < sz → w.cell? ⟨b, j, none⟩ = news[j]?) (h1 : ∀ u ∈ news, u.oneCell' = true) (hn : n ≤ 4000000) (hB : B ≤ w.heap.size)
    (h : ∀ A cap w', w'.ownsRow B e sz (.slice A (n + 1) cap) (n + 1) (xs ++ news) → w.grownBy w' v.ownBlock → Below B w w' → K (a.put o.dst (.slice A (n + 1) cap)) w') :
    if Region.wanted o (yielded ops a.tmps) = true then Oper.wp Try.prog o a w K Q else E := by
  obtain ⟨i0, hi, hz0, hz1, hz2⟩ := info_parts hinf
  refine step_append_lies _ hgd s x _ ho B e i0 z sz bts ht hi hz0 hz1 hz2 hz hs0 v n xs hs hown ⟨b, 0, none⟩ 1 c news hx (by rw [hl, Nat.one_mul]) ?_ h1 (by omega) (by unfold maxLen; omega) (by
    have : (n + 1) * bts ≤ 4000001 * 64 := Nat.mul_le_mul (by omega) hb
    omega) hB w.heap.size rfl ?_
  · intro j y hj
    have hlt : j < sz := by rw [← hl]; exact (List.getElem?_eq_some_iff.1 hj).1
    have e0 : (⟨b, 0, none⟩ : Addr).add j = ⟨b, j, none⟩ := by unfold Addr.add; split <;> simp_all
    rw [e0, hu j hlt, hj]
  · intro g cap w' hown' hg _ _
    exact h _ cap w' hown' hg (below_of_own hown hB hg)
/-- The same at the list of a plain region. -/
theorem list_step {rest : List Oper} (h : ∀ K : Act → World → Prop, (∀ a w, wpList Try.prog ops Q rest a w → K a w) →
      if Region.wanted o (yielded ops a.tmps) = true then o.wp Try.prog a w K Q else K (a.put o.dst undef) w) : wpList Try.prog ops Q (o :: rest) a w := wpList_step h
end

/-- An own slice of own slices of integers. -/
def OwR (w : World) (B : Nat) (v : Value) (rows : List (List Int)) : Prop :=
  ∃ vs, w.ownsRow B 22 1 v rows.length vs ∧ vs.length = rows.length ∧ ∀ i (h : i < rows.length), ∃ A c, vs[i]? = some (.slice A (rows[i]).length c) ∧ OwI w B (.slice A (rows[i]).length c) rows[i]

section
variable {w w' : World} {B B' : Nat} {v : Value} {rows : List (List Int)} {row : List Int}
theorem OwR.nil (w : World) (B : Nat) : OwR w B (.slice none 0 0) [] := ⟨[], World.ownsRow_nil _ _ _ _, rfl, fun i h => absurd h (by simp)⟩
theorem OwR.same (h : OwR w B v rows) (hk : ∀ k, k < w.heap.size → w'.heap[k]? = w.heap[k]?) : OwR w' B v rows := by
  obtain ⟨vs, h1, h2, h3⟩ := h
  exact ⟨vs, own_same h1 hk, h2, fun i hi => let ⟨A, c, e, ho⟩ := h3 i hi; ⟨A, c, e, own_same ho hk⟩⟩
theorem OwR.below (h : OwR w B v rows) (hb : Below w.heap.size w w') : OwR w' B v rows := h.same hb.block
theorem OwR.alloc (h : OwR w B v rows) (o : Obj) : OwR (w.alloc o) B v rows := h.same fun k hk => Below.heap_alloc w o k hk
theorem OwR.drew (h : OwR w B v rows) : OwR w.drew B v rows := h
theorem OwR.base (h : OwR w B v rows) (hB : B' ≤ B) : OwR w B' v rows := by
  obtain ⟨vs, h1, h2, h3⟩ := h
  exact ⟨vs, own_base h1 hB, h2, fun i hi => let ⟨A, c, e, ho⟩ := h3 i hi; ⟨A, c, e, own_base ho hB⟩⟩
theorem OwR.own (h : OwR w B v rows) : ∃ vs, w.ownsRow B 22 1 v rows.length vs := let ⟨vs, h1, _⟩ := h; ⟨vs, h1⟩
/-- Behind an append of a row. -/
theorem OwR.app {A A' : Option Addr} {c c' n m : Nat} {vs : List Value} (hrn : rows.length = n) (hm : row.length = m) (h1 : w.ownsRow B 22 1 v n vs) (h2 : vs.length = n)
    (h3 : ∀ i (h : i < rows.length), ∃ A c, vs[i]? = some (.slice A (rows[i]).length c) ∧ OwI w B (.slice A (rows[i]).length c) rows[i])
    (hr : OwI w B (.slice A m c) row) (hg : w.grownBy w' v.ownBlock)
    (hn : w'.ownsRow B 22 1 (.slice A' (n + 1) c') (n + 1) (vs ++ [.slice A m c])) : OwR w' B (.slice A' (n + 1) c') (rows ++ [row]) := by
  subst hrn
  subst hm
  refine ⟨vs ++ [.slice A row.length c], by simpa using hn, by simp [h2], fun i hi => ?_⟩
  have hlt : i ≤ rows.length := by simp at hi; omega
  rcases Nat.lt_or_eq_of_le hlt with hlt | rfl
  · obtain ⟨A0, c0, e0, ho0⟩ := h3 i hlt
    refine ⟨A0, c0, ?_, ?_⟩
    · rw [List.getElem?_append_left (by omega), e0, List.getElem_append_left hlt]
    · rw [List.getElem_append_left hlt]
      exact World.ownsRow.kept ho0 hg (own_ne ho0 h1 (by decide))
  · refine ⟨A, c, ?_, ?_⟩
    · rw [List.getElem?_append_right (by omega), h2]
      simp
    · simp only [List.getElem_concat_length]
      exact World.ownsRow.kept hr hg (own_ne hr h1 (by decide))
/-- Row i: its slice value's cell, and what it owns. -/
theorem OwR.at_ {A : Option Addr} {c : Nat} (h : OwR w B (.slice A rows.length c) rows) {i : Nat} (hi : i < rows.length) :
    ∃ g A1 c1, A = some ⟨g, 0, none⟩ ∧ g < w.heap.size ∧ w.cell? ⟨g, i, none⟩ = some (.slice A1 (rows[i]).length c1) ∧ OwI w B (.slice A1 (rows[i]).length c1) rows[i] := by
  obtain ⟨vs, h1, h2, h3⟩ := h
  obtain ⟨g, rfl, _, hg, hc, _⟩ := own_at h1 (by omega)
  obtain ⟨A1, c1, e1, ho⟩ := h3 i hi
  exact ⟨g, A1, c1, rfl, hg, by rw [hc i (by omega), e1], ho⟩
end

/-- A plan as data. -/
structure Pl where
  n : Int
  s : List (Int × Int)
  o : List Int

def fl (s : List (Int × Int)) : List Value := s.flatMap fun p => [I p.1, I p.2]
theorem fl_length (s : List (Int × Int)) : (fl s).length = s.length * 2 := by
  induction s with
  | nil => rfl
  | cons p s ih => simp [fl] at ih ⊢; omega
theorem fl_at {s : List (Int × Int)} {k : Nat} (hk : k < s.length) : (fl s)[k * 2]? = some (I s[k].1) ∧ (fl s)[k * 2 + 1]? = some (I s[k].2) := by
  induction s generalizing k with
  | nil => simp at hk
  | cons p s ih =>
    cases k with
    | zero => exact ⟨rfl, rfl⟩
    | succ k =>
      have := ih (k := k) (by simpa using hk)
      have e : fl (p :: s) = I p.1 :: I p.2 :: fl s := rfl
      rw [e]
      refine ⟨?_, ?_⟩
      · rw [show (k + 1) * 2 = k * 2 + 1 + 1 from by omega]; simpa using this.1
      · rw [show (k + 1) * 2 + 1 = k * 2 + 1 + 1 + 1 from by omega]; simpa using this.2
theorem fl_snoc (s : List (Int × Int)) (p : Int × Int) : fl (s ++ [p]) = fl s ++ [I p.1, I p.2] := by simp [fl]

/-- The two cells of step k. -/
theorem Rd.stp {w : World} {B : Nat} {A : Option Addr} {s : List (Int × Int)} (h : Rd w B 2 A s.length (fl s)) {k : Nat} (hk : k < s.length) :
    ∃ b off, A = some ⟨b, off, none⟩ ∧ b < B ∧ w.cell? ⟨b, off + k * 2, none⟩ = some (.int .i64 (s[k]'hk).1) ∧ w.cell? ⟨b, off + k * 2 + 1, none⟩ = some (.int .i64 (s[k]'hk).2) := by
  obtain ⟨b, off, e, hb, hc⟩ := h.2 (by omega)
  refine ⟨b, off, e, hb, ?_, ?_⟩
  · rw [hc _ (by omega), (fl_at hk).1]
  · rw [Nat.add_assoc, hc _ (by omega), (fl_at hk).2]

/-- What the world must hold for a plan's value to read as p. -/
def RdP (w : World) (B : Nat) (A1 A2 : Option Addr) (p : Pl) : Prop := Rd w B 2 A1 p.s.length (fl p.s) ∧ Rd w B 1 A2 p.o.length (p.o.map I)
def plV (A1 A2 : Option Addr) (c1 c2 : Nat) (p : Pl) : Value := .agg #[.int .i64 p.n, .slice A1 p.s.length c1, .slice A2 p.o.length c2]
section
variable {w w' : World} {B B' : Nat} {A1 A2 : Option Addr} {p : Pl}
theorem RdP.below (h : RdP w B A1 A2 p) (hb : Below B w w') : RdP w' B A1 A2 p := ⟨h.1.below hb, h.2.below hb⟩
theorem RdP.below' {C : Nat} (h : RdP w B A1 A2 p) (hb : Below C w w') (hC : B ≤ C) : RdP w' B A1 A2 p := h.below (hb.mono hC)
theorem RdP.more (h : RdP w B A1 A2 p) (hB : B ≤ B') : RdP w B' A1 A2 p := ⟨h.1.more hB, h.2.more hB⟩
theorem RdP.alloc (h : RdP w B A1 A2 p) (hB : B ≤ w.heap.size) (o : Obj) : RdP (w.alloc o) B A1 A2 p := ⟨h.1.alloc hB o, h.2.alloc hB o⟩
theorem RdP.drew (h : RdP w B A1 A2 p) : RdP w.drew B A1 A2 p := h
theorem RdP.drewN (h : RdP w B A1 A2 p) (k : Nat) : RdP (w.drewN k) B A1 A2 p := h
end

/-- A cell that is there is there behind a new block. -/
theorem cell_kept {w : World} {p : Addr} {v : Value} (h : w.cell? p = some v) : ∀ o, (w.alloc o).cell? p = some v :=
  fun o => (World.cell?_alloc_lt w o p (World.block_lt_of_cell? w _ h)).trans h
/-- A cell that is there reads what is stored into it. -/
theorem cell_set_same {w : World} {p : Addr} {u : Value} (h : w.cell? p = some u) (v : Value) : (w.setCell p v).cell? p = some v := by
  unfold World.cell? at h
  cases hb : w.heap[p.block]? with
  | none => rw [hb] at h; simp at h
  | some o =>
    rw [hb] at h
    cases o with
    | cells c t fr =>
      simp only at h
      split at h
      · cases h
      · rename_i hs
        have hlt : p.off < c.size := (Array.getElem?_eq_some_iff.1 h).1
        unfold World.cell? World.setCell
        simp [Array.getElem?_modify, hb, hs, hlt]
    | _ => simp at h
theorem ret_slice {A : Option Addr} {n m c : Nat} (h : n = m) : Ending.returned (.slice A n c) = .returned (.slice A m c) := by rw [h]
/-- Four stores into a block of four cells. -/
theorem set4 {w w0 : World} {g B C sz n : Nat} {t e : TypeId} {v a b c d a' b' c' d' : Value} {xs : List Value} (h : w.heap[g]? = some (.cells #[a, b, c, d] t (0, 0))) (ho : w.ownsRow B e sz v n xs) (ht : t ≠ e) (hb : Below C w0 w) (hC : C ≤ g) :
    ((((w.setCell ⟨g, 0, none⟩ a').setCell ⟨g, 1, none⟩ b').setCell ⟨g, 2, none⟩ c').setCell ⟨g, 3, none⟩ d').heap[g]? = some (.cells #[a', b', c', d'] t (0, 0)) ∧
    ((((w.setCell ⟨g, 0, none⟩ a').setCell ⟨g, 1, none⟩ b').setCell ⟨g, 2, none⟩ c').setCell ⟨g, 3, none⟩ d').ownsRow B e sz v n xs ∧
    Below C w0 ((((w.setCell ⟨g, 0, none⟩ a').setCell ⟨g, 1, none⟩ b').setCell ⟨g, 2, none⟩ c').setCell ⟨g, 3, none⟩ d') := by
  have h1 := heap_setCell_same w g 0 _ t a' h
  have o1 := own_set (o := 0) ho h ht a'
  have h2 := heap_setCell_same _ g 1 _ t b' h1
  have o2 := own_set (o := 1) o1 h1 ht b'
  have h3 := heap_setCell_same _ g 2 _ t c' h2
  have o3 := own_set (o := 2) o2 h2 ht c'
  have h4 := heap_setCell_same _ g 3 _ t d' h3
  have o4 := own_set (o := 3) o3 h3 ht d'
  refine ⟨?_, o4, (((hb.setCell hC _).setCell hC _).setCell hC _).setCell hC _⟩
  rw [h4]
  rfl
theorem box2 {w w1 : World} {a b : Value} {t : TypeId} (h : w.alloc (.cells #[a, b] t) = w1) :
    w1.cell? ⟨w.heap.size, 0, none⟩ = some a ∧ w1.cell? ⟨w.heap.size, 1, none⟩ = some b ∧ w1.heap.size = w.heap.size + 1 ∧ Below w.heap.size w w1 := by
  subst h
  refine ⟨?_, ?_, by simp, (Below.refl _ _).alloc (Nat.le_refl _) _⟩ <;> (rw [World.cell?_alloc_at _ _ _ _ rfl]; rfl)
theorem box3 {w w1 : World} {a b c : Value} {t : TypeId} (h : w.alloc (.cells #[a, b, c] t) = w1) :
    w1.cell? ⟨w.heap.size, 0, none⟩ = some a ∧ w1.cell? ⟨w.heap.size, 1, none⟩ = some b ∧ w1.cell? ⟨w.heap.size, 2, none⟩ = some c ∧ w1.heap.size = w.heap.size + 1 ∧ Below w.heap.size w w1 := by
  subst h
  refine ⟨?_, ?_, ?_, by simp, (Below.refl _ _).alloc (Nat.le_refl _) _⟩ <;> (rw [World.cell?_alloc_at _ _ _ _ rfl]; rfl)
end Go.Proofs.Ytbbjgcagkmlngab
/- Contracts of the small functions of the model. -/
namespace Go.Proofs.Ytbbjgcagkmlngab
open Go.RowKit

def inB (n lo hi : Int) : Bool := decide (lo ≤ n) && decide (n ≤ hi)
def hasI (l : List Int) (n : Int) : Bool := l.contains n
def allB (l : List Int) (lo hi : Int) : Bool := l.all fun n => inB n lo hi

theorem hasI_take {l : List Int} {n : Int} {k : Nat} (hk : k < l.length) (h : hasI (l.take k) n = false) : hasI (l.take (k + 1)) n = (l[k] == n) := by
  unfold hasI at *
  rw [List.take_succ_eq_append_getElem hk]
  simp only [List.contains_append, h, Bool.false_or, List.contains_cons, List.contains_nil, Bool.or_false]
  exact Bool.beq_comm
theorem hasI_hit {l : List Int} {n : Int} {k : Nat} (hk : k < l.length) (h : (l[k] == n) = true) : hasI l n = true := by
  unfold hasI
  simp at h ⊢
  exact h ▸ List.getElem_mem hk
theorem hasI_end {l : List Int} {n : Int} {k : Nat} (hk : ¬ k < l.length) (h : hasI (l.take k) n = false) : hasI l n = false := by
  rwa [List.take_of_length_le (by omega)] at h
theorem allB_take {l : List Int} {lo hi : Int} {k : Nat} (hk : k < l.length) (h : allB (l.take k) lo hi = true) : allB (l.take (k + 1)) lo hi = inB l[k] lo hi := by
  unfold allB at *
  rw [List.take_succ_eq_append_getElem hk, List.all_append, h]
  simp
theorem allB_miss {l : List Int} {lo hi : Int} {k : Nat} (hk : k < l.length) (h : inB l[k] lo hi = false) : allB l lo hi = false := by
  unfold allB
  rw [List.all_eq_false]
  exact ⟨_, List.getElem_mem hk, by simp [h]⟩
theorem allB_end {l : List Int} {lo hi : Int} {k : Nat} (hk : ¬ k < l.length) (h : allB (l.take k) lo hi = true) : allB l lo hi = true := by
  rwa [List.take_of_length_le (by omega)] at h

set_option maxHeartbeats 400000 in
theorem l1In_any (n lo hi : Int) (w : World) :
    Calls Try.prog 85 #[.int .i64 n, .int .i64 lo, .int .i64 hi] w fun e w' => e = .returned (.bool (inB n lo hi)) ∧ w = w' := by
  by_cases h1 : lo ≤ n <;> by_cases h2 : n ≤ hi
  all_goals
    go_enter Try.func85, Try.ntmps85
    go_wp2
    go_ret
    exact ⟨ret_bool (by simp [inB, h1, h2]), rfl⟩

set_option maxHeartbeats 400000 in
theorem l1Has_any (B : Nat) (A : Option Addr) (c : Nat) (l : List Int) (n : Int) (w : World) (hm : l.length ≤ 4000000) (hr : Rd w B 1 A l.length (l.map I)) :
    Calls Try.prog 71 #[.slice A l.length c, .int .i64 n] w fun e w' => e = .returned (.bool (hasI l n)) ∧ w = w' := by
  have H := Lib.hid hr
  clear hr
  go_enter Try.func71, Try.ntmps71
  go_wp2
  go_loop [9] (fun i => ∃ k : Nat, k ≤ l.length ∧ i = .int .i64 k ∧ hasI (l.take k) n = false) (fun i => l.length - (intOf i).toNat)
  case atStart => exact ⟨0, by omega, rfl, rfl⟩
  case round =>
    obtain ⟨k, hk, rfl, hq⟩ := hrel
    have Q := Lib.hid hq
    clear hq
    by_cases hlt : k < l.length
    · obtain ⟨b, off, rfl, hb, hcell⟩ := H.out.int hlt
      go_wp2
      · go_ret
        exact ⟨ret_bool (hasI_hit hlt (by assumption)).symm, rfl⟩
      · have hne : (l[k] == n) = false := by assumption
        go_round
        case rel => exact ⟨k + 1, by omega, by go_num, by rw [hasI_take hlt Q.out]; exact hne⟩
        case measure => simp [intOf]; omega
    · go_wp2
      go_ret
      exact ⟨ret_bool (hasI_end hlt Q.out).symm, rfl⟩

set_option maxHeartbeats 400000 in
theorem l1All_any (B : Nat) (A : Option Addr) (c : Nat) (l : List Int) (lo hi : Int) (w : World) (hm : l.length ≤ 4000000) (hr : Rd w B 1 A l.length (l.map I)) :
    Calls Try.prog 131 #[.slice A l.length c, .int .i64 lo, .int .i64 hi] w fun e w' => e = .returned (.bool (allB l lo hi)) ∧ w = w' := by
  have H := Lib.hid hr
  clear hr
  go_enter Try.func131, Try.ntmps131
  go_wp2
  go_loop [11] (fun i => ∃ k : Nat, k ≤ l.length ∧ i = .int .i64 k ∧ allB (l.take k) lo hi = true) (fun i => l.length - (intOf i).toNat)
  case atStart => exact ⟨0, by omega, rfl, rfl⟩
  case round =>
    obtain ⟨k, hk, rfl, hq⟩ := hrel
    have Q := Lib.hid hq
    clear hq
    by_cases hlt : k < l.length
    · obtain ⟨b, off, rfl, hb, hcell⟩ := H.out.int hlt
      by_cases hin : inB l[k] lo hi = true
      · go_wp2_with (go_at_call 85; refine (l1In_any _ _ _ _).mono ?_; rintro e w' ⟨rfl, rfl⟩)
        go_round
        case rel => exact ⟨k + 1, by omega, by go_num, by rw [allB_take hlt Q.out]; exact hin⟩
        case measure => simp [intOf]; omega
      · have hin' : inB l[k] lo hi = false := by simpa using hin
        clear hin
        go_wp2_with (go_at_call 85; refine (l1In_any _ _ _ _).mono ?_; rintro e w' ⟨rfl, rfl⟩)
        go_ret
        exact ⟨ret_bool (allB_miss hlt hin').symm, rfl⟩
    · go_wp2
      go_ret
      exact ⟨ret_bool (allB_end hlt Q.out).symm, rfl⟩

def eqI (a b : List Int) : Bool := decide (a = b)
theorem same_take {a b : List Int} {k : Nat} (ha : k < a.length) (hb : k < b.length) (h : a.take k = b.take k) (he : a[k] = b[k]) : a.take (k + 1) = b.take (k + 1) := by
  rw [List.take_succ_eq_append_getElem ha, List.take_succ_eq_append_getElem hb, h, he]
theorem eqI_miss {a b : List Int} {k : Nat} (ha : k < a.length) (hb : k < b.length) (h : (a[k] != b[k]) = true) : eqI a b = false := by
  unfold eqI
  rw [decide_eq_false_iff_not]
  intro e
  subst e
  simp at h
theorem eqI_len {a b : List Int} (h : a.length ≠ b.length) : eqI a b = false := by
  unfold eqI
  rw [decide_eq_false_iff_not]
  intro e
  exact h (by rw [e])
theorem eqI_end {a b : List Int} {k : Nat} (hl : a.length = b.length) (hk : ¬ k < a.length) (h : a.take k = b.take k) : eqI a b = true := by
  unfold eqI
  rw [List.take_of_length_le (by omega), List.take_of_length_le (by omega)] at h
  simp [h]

def mostI (a b : Int) : Int := if b < a then a else b
def leastI (a b : Int) : Int := if a < b then a else b
set_option maxHeartbeats 400000 in
theorem l1Least_any (a b : Int) (w : World) :
    Calls Try.prog 140 #[.int .i64 a, .int .i64 b] w fun e w' => e = .returned (.int .i64 (leastI a b)) ∧ w = w' := by
  by_cases h1 : a < b
  · have e : leastI a b = a := by simp [leastI, h1]
    rw [e]
    go_enter Try.func140, Try.ntmps140
    go_wp2
    go_ret
    exact ⟨rfl, rfl⟩
  · have e : leastI a b = b := by simp [leastI, h1]
    rw [e]
    go_enter Try.func140, Try.ntmps140
    go_wp2
    go_ret
    exact ⟨rfl, rfl⟩
set_option maxHeartbeats 400000 in
theorem l1Most_any (a b : Int) (w : World) :
    Calls Try.prog 92 #[.int .i64 a, .int .i64 b] w fun e w' => e = .returned (.int .i64 (mostI a b)) ∧ w = w' := by
  by_cases h1 : b < a
  · have e : mostI a b = a := by simp [mostI, h1]
    rw [e]
    go_enter Try.func92, Try.ntmps92
    go_wp2
    go_ret
    exact ⟨rfl, rfl⟩
  · have e : mostI a b = b := by simp [mostI, h1]
    rw [e]
    go_enter Try.func92, Try.ntmps92
    go_wp2
    go_ret
    exact ⟨rfl, rfl⟩

def sumL (a b : List Int) : List Int := List.zipWith (fun x y => leastI (x + y) 1000001) a b
theorem sumL_length (a b : List Int) (h : a.length ≤ b.length) : (sumL a b).length = a.length := by simp [sumL]; omega
theorem sumL_take {a b : List Int} {k : Nat} (ha : k < a.length) (hb : k < b.length) : (sumL a b).take (k + 1) = (sumL a b).take k ++ [leastI (a[k] + b[k]) 1000001] := by
  rw [List.take_succ_eq_append_getElem (by simp [sumL]; omega)]
  simp [sumL]

set_option maxRecDepth 100000 in
set_option maxHeartbeats 1000000 in
theorem plSum_any (B : Nat) (A A' : Option Addr) (c c' : Nat) (a b : List Int) (w : World) (hm : a.length ≤ 1000) (hab : a.length ≤ b.length) (hB : B ≤ w.heap.size)
    (ha : ∀ x ∈ a, 0 ≤ x ∧ x ≤ 1000001) (hbb : ∀ x ∈ b, 0 ≤ x ∧ x ≤ 1000001)
    (hr : Rd w B 1 A a.length (a.map I)) (hr' : Rd w B 1 A' b.length (b.map I)) :
    Calls Try.prog 159 #[.slice A a.length c, .slice A' b.length c'] w fun e w' => ∃ A1 c1, e = .returned (.slice A1 a.length c1) ∧ OwI w' w.heap.size (.slice A1 a.length c1) (sumL a b) ∧ Below w.heap.size w w' := by
  have H := Lib.hid hr
  have H' := Lib.hid hr'
  have Ha := Lib.hid ha
  have Hb := Lib.hid hbb
  clear hr hr' ha hbb
  obtain ⟨S, hS⟩ : ∃ S, S = w.heap.size := ⟨_, rfl⟩
  rw [← hS]
  have HS := Lib.hid hS
  clear hS
  go_enter Try.func159, Try.ntmps159
  go_wp2
  go_loopw [5, 9] (fun o i wr => ∃ (k : Nat) (A1 : Option Addr) (c1 : Nat), k ≤ a.length ∧ i = .int .i64 k ∧ o = .slice A1 k c1 ∧ OwI wr S o ((sumL a b).take k) ∧ Below S w wr) (fun _ i _ => a.length - (intOf i).toNat)
  case atStart => exact ⟨0, none, 0, by omega, rfl, rfl, OwI.nil _ _, Below.refl _ _⟩
  case round =>
    obtain ⟨k, A1, c1, hk, rfl, rfl, hown, hbel⟩ := hrel
    by_cases hlt : k < a.length
    · have hlt' : k < b.length := by omega
      have hSs : S ≤ wr.heap.size := by have := HS.out; have := hbel.size; omega
      obtain ⟨b1, off, rfl, hb1, hcell⟩ := (H.out.below' hbel (by have := HS.out; omega)).int hlt
      obtain ⟨b2, off2, rfl, hb2, hcell2⟩ := (H'.out.below' hbel (by have := HS.out; omega)).int hlt'
      have i1 : (k : Int) < (a.length : Int) := by omega
      have i2 : (k : Int) < (b.length : Int) := by omega
      have i0 : (0 : Int) ≤ (k : Int) := by omega
      have q1 := Ha.out _ (List.getElem_mem hlt)
      have q2 := Hb.out _ (List.getElem_mem hlt')
      have hlen : ((sumL a b).take k).length = k := by simp [sumL_length a b hab]; omega
      have HL := Lib.hid hlen
      have hsum : IntKind.i64.wrap (a[k] + b[k]) = a[k] + b[k] := IntWalk.i64_in _ (by omega)
      clear hlen
      have W := Lib.hid hown
      have W2 := Lib.hid hbel
      clear hown hbel
      go_wp2
      refine wp_region_Tw [0, 1, 2, 3, 4, 5, 6, 7, 8, 9, 13] [4, 8] (.lp 0 (.lp 1 (.lp 2 (.lp 3 (.lp 5 (.lp 6 (.lp 7 (.ls 4 (.ls 8 (.lp 9 (.hv 10 (.hv 11 (.hv 12 (.lp 13 (.done))))))))))))))) (by kernel_rfl) (by kernel_rfl) ?_
      (repeat (first | (refine T_lp rfl (fun K hK => ?_); go_simp; refine hK _ ?_; clear hK K) | (refine T_ls rfl rfl (fun K hK => ?_); go_simp; refine hK _ ?_; clear hK K)))
      (refine T_hv rfl (by kernel_rfl) (fun K hK => ?_); go_simp)
      go_at_call 140
      refine (l1Least_any _ _ _).mono ?_
      rintro e w' ⟨rfl, rfl⟩
      (go_simp; refine hK _ _ ?_; clear hK K)
      (refine T_hv rfl (by kernel_rfl) (fun K hK => ?_); go_simp; refine hK _ _ ?_; clear hK K)
      refine T_hv rfl (by kernel_rfl) (fun K hK => ?_)
      refine step_app_int rfl (.tmp 12) (.tmp 23) rfl S k _ _ rfl ((OwI.alloc W.out _).drew) HL.out wr.heap.size 1 (leastI (a[k] + b[k]) 1000001) rfl (by simp) (by omega) (by simp; omega) ?_
      intro A2 c2 w2 hown2 hg2 hbel2
      (go_simp; refine hK _ _ ?_; clear hK K)
      (repeat (first | (refine T_lp rfl (fun K hK => ?_); go_simp; refine hK _ ?_; clear hK K) | (refine T_ls rfl rfl (fun K hK => ?_); go_simp; refine hK _ ?_; clear hK K)))
      refine T_done ?_
      go_wp2
      go_roundw
      case rel => exact ⟨k + 1, A2, c2, by omega, by go_num, rfl, by rw [sumL_take hlt hlt']; exact hown2, ((W2.out.alloc hSs _).drew).trans hbel2⟩
      case measure => simp [intOf]; omega
    · have hk' : k = a.length := by omega
      subst hk'
      rw [List.take_of_length_le (by rw [sumL_length a b hab]; exact Nat.le_refl _)] at hown
      go_wp2
      go_ret
      exact ⟨A1, c1, rfl, hown, hbel⟩
end Go.Proofs.Ytbbjgcagkmlngab
/- The exponents of a plan in the model. -/
namespace Go.Proofs.Ytbbjgcagkmlngab
open Go.RowKit

def units (n : Nat) : List (List Int) := (List.range n).map fun i => (List.replicate n (0 : Int)).set i 1
def expStep (out : List (List Int)) (s : Int × Int) : List (List Int) := out ++ [sumL (out.getD s.1.toNat []) (out.getD s.2.toNat [])]
def exps (n : Nat) (s : List (Int × Int)) : List (List Int) := s.foldl expStep (units n)
/-- Each step has two values that stand before it, in order. -/
def OkS (n : Nat) (s : List (Int × Int)) : Prop := ∀ i (h : i < s.length), 0 ≤ (s[i]).1 ∧ (s[i]).1 ≤ (s[i]).2 ∧ (s[i]).2 < n + i
def OkR (n : Nat) (rows : List (List Int)) : Prop := ∀ r ∈ rows, r.length = n ∧ ∀ x ∈ r, 0 ≤ x ∧ x ≤ 1000001

theorem units_length (n : Nat) : (units n).length = n := by simp [units]
theorem exps_take (n : Nat) {s : List (Int × Int)} {k : Nat} (hk : k < s.length) : exps n (s.take (k + 1)) = expStep (exps n (s.take k)) s[k] := by
  unfold exps
  rw [List.take_succ_eq_append_getElem hk, List.foldl_append]
  rfl
theorem foldl_expStep_length (s : List (Int × Int)) : ∀ (out : List (List Int)), (s.foldl expStep out).length = out.length + s.length := by
  induction s with
  | nil => intro out; rfl
  | cons p s ih => intro out; rw [List.foldl_cons, ih]; simp [expStep]; omega
theorem exps_length (n : Nat) (s : List (Int × Int)) : (exps n s).length = n + s.length := by
  unfold exps
  rw [foldl_expStep_length, units_length]
theorem units_ok (n : Nat) : OkR n (units n) := by
  intro r hr
  simp only [units, List.mem_map, List.mem_range] at hr
  obtain ⟨i, hi, rfl⟩ := hr
  refine ⟨by simp, fun x hx => ?_⟩
  rcases List.mem_or_eq_of_mem_set hx with h | h
  · have := List.eq_of_mem_replicate h; omega
  · omega
theorem leastI_le (a b : Int) (h0 : 0 ≤ a) (hb : 0 ≤ b) : 0 ≤ leastI a b ∧ leastI a b ≤ b := by
  unfold leastI; split <;> omega
theorem sumL_ok {n : Nat} {a b : List Int} (ha : a.length = n ∧ ∀ x ∈ a, 0 ≤ x ∧ x ≤ 1000001) (hb : b.length = n ∧ ∀ x ∈ b, 0 ≤ x ∧ x ≤ 1000001) :
    (sumL a b).length = n ∧ ∀ x ∈ sumL a b, 0 ≤ x ∧ x ≤ 1000001 := by
  refine ⟨by rw [sumL_length a b (by omega)]; exact ha.1, fun x hx => ?_⟩
  unfold sumL at hx
  rw [List.mem_iff_getElem] at hx
  obtain ⟨i, hi, rfl⟩ := hx
  simp only [List.length_zipWith] at hi
  rw [List.getElem_zipWith]
  have h1 := ha.2 _ (List.getElem_mem (show i < a.length by omega))
  have h2 := hb.2 _ (List.getElem_mem (show i < b.length by omega))
  exact leastI_le _ _ (by omega) (by omega)
theorem okS_take {n : Nat} {s : List (Int × Int)} (h : OkS n s) (k : Nat) : OkS n (s.take k) := by
  intro i hi
  have hi' : i < s.length := by simp at hi; omega
  rw [List.getElem_take]
  exact h i hi'
theorem getD_ok {n : Nat} {rows : List (List Int)} (h : OkR n rows) {j : Nat} (hj : j < rows.length) : (rows.getD j []).length = n ∧ ∀ x ∈ rows.getD j [], 0 ≤ x ∧ x ≤ 1000001 := by
  have e : rows.getD j [] = rows[j] := by simp [hj]
  rw [e]
  exact h _ (List.getElem_mem hj)
theorem exps_ok {n : Nat} {s : List (Int × Int)} (h : OkS n s) : ∀ k, k ≤ s.length → OkR n (exps n (s.take k)) := by
  intro k
  induction k with
  | zero => intro _; simp only [List.take_zero]; exact units_ok n
  | succ k ih =>
    intro hk
    have hk' : k < s.length := by omega
    have ih := ih (by omega)
    obtain ⟨h1, h2, h3⟩ := h k hk'
    rw [exps_take n hk']
    have hl := exps_length n (s.take k)
    rw [List.length_take, Nat.min_eq_left (by omega)] at hl
    intro r hr
    simp only [expStep, List.mem_append, List.mem_singleton] at hr
    rcases hr with hr | rfl
    · exact ih r hr
    · exact sumL_ok (getD_ok ih (by omega)) (getD_ok ih (by omega))

theorem made_own {w : World} {B : Nat} (n k : Nat) (hn : n ≤ 1000) (hB : B ≤ w.heap.size) :
    OwI (w.alloc (.cells ((madeCells #[Value.int .i64 0] n).setIfInBounds k (.int .i64 1)) 3)) B (.slice (some ⟨w.heap.size, 0, none⟩) n n) ((List.replicate n (0 : Int)).set k 1) := by
  have h := World.ownsRow_lit (base := B) (e := 3) (size := 1) w ((madeCells #[Value.int .i64 0] n).setIfInBounds k (.int .i64 1)) n hB (by unfold maxLen; omega) (by simp [size_madeCells])
  unfold OwI
  simp only [List.length_set, List.length_replicate]
  rw [Array.toList_setIfInBounds, toList_madeCells_one] at h
  rw [List.map_set, List.map_replicate]
  exact h

set_option maxRecDepth 100000 in
set_option maxHeartbeats 2000000 in
theorem plExponents_any (B N : Nat) (A1 A2 : Option Addr) (c1 c2 : Nat) (p : Pl) (w : World) (hpn : p.n = N) (h1 : 1 ≤ N) (h6 : N ≤ 6) (hs40 : p.s.length ≤ 1000) (hB : B ≤ w.heap.size) (hok : OkS N p.s)
    (hr : RdP w B A1 A2 p) :
    Calls Try.prog 130 #[.agg #[.int .i64 p.n, .slice A1 p.s.length c1, .slice A2 p.o.length c2]] w fun e w' =>
      ∃ A c, e = .returned (.slice A (exps N p.s).length c) ∧ OwR w' w.heap.size (.slice A (exps N p.s).length c) (exps N p.s) ∧ Below w.heap.size w w' := by
  have H := Lib.hid hr
  have HO := Lib.hid hok
  clear hr hok
  rw [hpn]
  have HN := Lib.hid hpn
  clear hpn
  go_enter Try.func130, Try.ntmps130
  go_wp2
  generalize hw1 : World.alloc w _ = w1
  obtain ⟨x0, x1, x2, xs, xb⟩ := box3 hw1
  clear hw1
  have X := Lib.hid xs
  have XB := Lib.hid xb
  clear xs xb
  go_loopw [3, 4] (fun o i wr => ∃ (k : Nat) (A : Option Addr) (c : Nat), k ≤ N ∧ i = .int .i64 k ∧ o = .slice A k c ∧ OwR wr (w.heap.size + 1) o ((units N).take k) ∧ Below (w.heap.size + 1) w1 wr) (fun _ i _ => N - (intOf i).toNat)
  case atStart => exact ⟨0, none, 0, by omega, rfl, rfl, OwR.nil _ _, Below.refl _ _⟩
  case round =>
    obtain ⟨k, A, c, hk, rfl, rfl, hown, hbel⟩ := hrel
    have hsz : w.heap.size + 1 ≤ wr.heap.size := by have := X.out; have := hbel.size; omega
    have y0 := (hbel.cell (p := ⟨w.heap.size, 0, none⟩) (by simp)).trans x0
    have y1 := (hbel.cell (p := ⟨w.heap.size, 1, none⟩) (by simp)).trans x1
    by_cases hlt : k < N
    · have hmk := run_make_row' (P := Try.prog) 22 3 (.int .i64 0) 8 Try.underlying22 info_int rfl .i64 .i64 N (by omega) (by omega)
      obtain ⟨vs, hv1, hv2, hv3⟩ := hown
      have hlen : ((units N).take k).length = k := by simp [units_length]; omega
      rw [hlen] at hv1 hv2
      have V1 := Lib.hid hv1
      have V2 := Lib.hid hv2
      have V3 := Lib.hid hv3
      have HL := Lib.hid hlen
      have HB := Lib.hid hbel
      have hcm := made_at (.int .i64 0) N k hlt
      clear hv1 hv2 hv3 hlen hbel
      go_wp2_with (first
        | (at_builtin; refine list_step (fun K hK => ?_); refine step_app1 Try.underlying56 info_ints rfl (by omega) rfl (.tmp 20) (.tmp 22) rfl (w.heap.size + 1) k _ vs rfl ((V1.out.alloc _).alloc _) (wr.heap.size + 1) 1 (.slice (some ⟨wr.heap.size, 0, none⟩) N N) rfl ?c1 rfl (by omega) ?c2 ?_; rotate_right; intro A2 c2' w2 hown2 hg2 hbel2; go_simp; refine hK _ _ ?_; clear hK K))
      case c1 => simp
      case c2 => simp; omega
      go_roundw
      case rel =>
        refine ⟨k + 1, A2, c2', by omega, by go_num, rfl, ?_, ((HB.out.alloc hsz _).alloc (by simp; omega) _).trans hbel2⟩
        have ho : OwI _ _ _ _ := World.ownsRow.alloc (made_own (w := wr) (B := w.heap.size + 1) N k (by omega) hsz) (Obj.cells #[Value.slice (some ⟨wr.heap.size, 0, none⟩) N N] 22)
        have h3' : ∀ i (h : i < ((units N).take k).length), ∃ A c, vs[i]? = some (.slice A (((units N).take k)[i]).length c) ∧ OwI ((wr.alloc (.cells ((madeCells #[Value.int .i64 0] N).setIfInBounds k (.int .i64 1)) 3)).alloc (Obj.cells #[Value.slice (some ⟨wr.heap.size, 0, none⟩) N N] 22)) (w.heap.size + 1) (.slice A (((units N).take k)[i]).length c) ((units N).take k)[i] := fun i h => by
          obtain ⟨A0, c0, e0, ho0⟩ := V3.out i h
          exact ⟨A0, c0, e0, World.ownsRow.alloc (World.ownsRow.alloc ho0 _) _⟩
        have hu : (units N).take (k + 1) = (units N).take k ++ [(List.replicate N (0 : Int)).set k 1] := by
          rw [List.take_succ_eq_append_getElem (by rw [units_length]; exact hlt)]
          simp [units]
        rw [hu]
        have hll : ((List.replicate N (0 : Int)).set k 1).length = N := by simp
        exact OwR.app HL.out hll (World.ownsRow.alloc (World.ownsRow.alloc V1.out _) _) V2.out h3' ho hg2 hown2
      case measure => simp [intOf]; omega
    · have hk' : k = N := by omega
      subst hk'
      clear hlt
      have hfull : (units k).take k = units k := List.take_of_length_le (by rw [units_length]; exact Nat.le_refl _)
      rw [hfull] at hown
      have OWN := Lib.hid hown
      have HB := Lib.hid hbel
      clear hown hbel hfull
      go_wp2
      go_loopw [3, 27] (fun o i wr => ∃ (j : Nat) (A : Option Addr) (c : Nat), j ≤ p.s.length ∧ i = .int .i64 j ∧ o = .slice A (k + j) c ∧ OwR wr (w.heap.size + 1) o (exps k (p.s.take j)) ∧ Below (w.heap.size + 1) w1 wr) (fun _ i _ => p.s.length - (intOf i).toNat)
      case atStart => exact ⟨0, A, c, by omega, rfl, rfl, OWN.out, HB.out⟩
      case round =>
        obtain ⟨j, A0, c0, hj, rfl, rfl, hown, hbel⟩ := hrel
        have hsz : w.heap.size + 1 ≤ wr.heap.size := by have := X.out; have := hbel.size; omega
        clear y0 y1 x0 x1 x2 OWN HB
        by_cases hlt : j < p.s.length
        · obtain ⟨rows, hrows⟩ : ∃ rows, rows = exps k (p.s.take j) := ⟨_, rfl⟩
          have hrl : rows.length = k + j := by rw [hrows, exps_length]; simp; omega
          have hro : OkR k rows := by rw [hrows]; exact exps_ok HO.out j hj
          obtain ⟨o1, o2, o3⟩ := HO.out j hlt
          obtain ⟨a, ha⟩ : ∃ a : Nat, (p.s[j]).1 = a := ⟨(p.s[j]).1.toNat, by omega⟩
          obtain ⟨b, hb⟩ : ∃ b : Nat, (p.s[j]).2 = b := ⟨(p.s[j]).2.toNat, by omega⟩
          obtain ⟨sb, off, rfl, hsb, hc1, hc2⟩ := ((H.out.1.below' XB.out hB).below' hbel (by omega)).stp hlt
          rw [ha] at hc1
          rw [hb] at hc2
          rw [← hrows, ← hrl] at hown
          have hal : a < k + j := by omega
          have hbl : b < k + j := by omega
          have ia : (a : Int) < (k : Int) + (j : Int) := by omega
          have ib : (b : Int) < (k : Int) + (j : Int) := by omega
          have har : a < rows.length := by omega
          have hbr : b < rows.length := by omega
          obtain ⟨g, B1, d1, rfl, hg, hca, hoa⟩ := hown.at_ har
          obtain ⟨g', B2, d2, hg', _, hcb, hob⟩ := hown.at_ hbr
          obtain rfl : g = g' := by injection hg' with hg'; injection hg'
          have OWN := Lib.hid hown
          have OA := Lib.hid hoa
          have OB := Lib.hid hob
          have HB := Lib.hid hbel
          have HR := Lib.hid hrl
          have HRO := Lib.hid hro
          have HRW := Lib.hid hrows
          have HA := Lib.hid ha
          have HB2 := Lib.hid hb
          clear hown hoa hob hbel hrl hro hrows ha hb hg' o1 o2 o3
          go_wp2
          refine wp_region_Tw [0, 1, 2, 3, 4, 5, 6, 7, 8, 9, 10, 14] [3, 5, 8, 10] (.lp 0 (.lp 1 (.lp 2 (.lp 6 (.lp 7 (.ls 3 (.lp 4 (.ls 5 (.ls 8 (.lp 9 (.ls 10 (.hv 11 (.hv 12 (.hv 13 (.lp 14 (.done)))))))))))))))) (by kernel_rfl) (by kernel_rfl) ?_
          (repeat (first | (refine T_lp rfl (fun K hK => ?_); go_simp; refine hK _ ?_; clear hK K) | (refine T_ls rfl rfl (fun K hK => ?_); go_simp; refine hK _ ?_; clear hK K)))
          (refine T_hv rfl (by kernel_rfl) (fun K hK => ?_); go_simp)
          go_at_call 159
          have hW : wr.heap.size ≤ (wr.alloc (Obj.cells #[Value.int .i64 ↑a, Value.int .i64 ↑b] 114)).drew.heap.size := by simp
          refine (plSum_any wr.heap.size _ _ _ _ rows[a] rows[b] _ (by have := (HRO.out _ (List.getElem_mem har)).1; omega) (by rw [(HRO.out _ (List.getElem_mem har)).1, (HRO.out _ (List.getElem_mem hbr)).1]; exact Nat.le_refl _) hW
            (HRO.out _ (List.getElem_mem _)).2 (HRO.out _ (List.getElem_mem _)).2 (OA.out.rd.alloc (Nat.le_refl _) _) (OB.out.rd.alloc (Nat.le_refl _) _)).mono ?_
          rintro e w2 ⟨A3, c3, rfl, hown3, hbel3⟩
          (go_simp; refine hK _ _ ?_; clear hK K)
          (refine T_hv rfl (by kernel_rfl) (fun K hK => ?_); go_simp; refine hK _ _ ?_; clear hK K)
          refine T_hv rfl (by kernel_rfl) (fun K hK => ?_)
          have OW2 := (((OWN.out.alloc (Obj.cells #[Value.int .i64 ↑a, Value.int .i64 ↑b] 114)).drew).below hbel3).alloc (Obj.cells #[Value.slice A3 (rows[a]).length c3] 22)
          obtain ⟨vs, v1, v2, v3⟩ := OW2
          have OR3 : OwI _ (w.heap.size + 1) _ _ := (World.ownsRow.alloc (own_base hown3 (by simp; omega)) (Obj.cells #[Value.slice A3 (rows[a]).length c3] 22))
          have hs2 : wr.heap.size ≤ w2.heap.size := by have := hbel3.size; simp at this; omega
          have v1' := v1
          rw [HR.out] at v1'
          refine step_app1 Try.underlying56 info_ints rfl (by omega) rfl (.tmp 31) (.tmp 43) rfl (w.heap.size + 1) (k + j) _ vs rfl v1' w2.heap.size 1 (.slice A3 (rows[a]).length c3) rfl (by simp) rfl (by omega) (by simp; omega) ?_
          intro A4 c4 w4 hown4 hg4 hbel4
          (go_simp; refine hK _ _ ?_; clear hK K)
          (repeat (first | (refine T_lp rfl (fun K hK => ?_); go_simp; refine hK _ ?_; clear hK K) | (refine T_ls rfl rfl (fun K hK => ?_); go_simp; refine hK _ ?_; clear hK K)))
          refine T_done ?_
          go_wp2
          have hsl : (sumL rows[a] rows[b]).length = (rows[a]).length := sumL_length _ _ (by rw [(HRO.out _ (List.getElem_mem har)).1, (HRO.out _ (List.getElem_mem hbr)).1]; exact Nat.le_refl _)
          go_roundw
          case rel =>
            refine ⟨j + 1, A4, c4, by omega, by go_num, rfl, ?_, ((((HB.out.alloc hsz _).drew).trans (hbel3.mono (by simp; omega))).alloc (by omega) _).trans hbel4⟩
            rw [exps_take k hlt, ← HRW.out]
            have e : expStep rows p.s[j] = rows ++ [sumL rows[a] rows[b]] := by
              unfold expStep
              rw [HA.out, HB2.out]
              simp [har, hbr]
            rw [e]
            exact OwR.app HR.out hsl v1' (by rw [v2, HR.out]) v3 OR3 hg4 hown4
          case measure => simp [intOf]; omega
        · have hj' : j = p.s.length := by omega
          subst hj'
          have hl := exps_length k p.s
          rw [List.take_of_length_le (Nat.le_refl _)] at hown
          rw [← hl] at hown
          go_wp2
          go_ret
          refine ⟨A0, c0, ret_slice hl.symm, hown.base (by omega), XB.out.trans (hbel.mono (by omega))⟩
end Go.Proofs.Ytbbjgcagkmlngab
/- Which plans the model takes as valid. -/
namespace Go.Proofs.Ytbbjgcagkmlngab
open Go.RowKit

def stepOk (n : Int) (i : Nat) (st : Int × Int) : Bool := inB st.1 0 st.2 && decide (st.2 < n + i)
def okPre (n : Int) (s : List (Int × Int)) (k : Nat) : Bool := (List.range k).all fun i => stepOk n i (s.getD i (0, 0))
def expsB (rows : List (List Int)) : Bool := rows.all fun r => allB r 0 1000000
def good (p : Pl) : Bool :=
  inB p.n 1 6 && (decide (p.s.length ≤ 40) && (decide (p.o.length ≤ 6) && (okPre p.n p.s p.s.length && (expsB (exps p.n.toNat p.s) && allB p.o 0 (p.n + p.s.length - 1)))))

theorem okPre_succ (n : Int) (s : List (Int × Int)) (k : Nat) (hk : k < s.length) : okPre n s (k + 1) = (okPre n s k && stepOk n k s[k]) := by
  unfold okPre
  rw [List.range_succ, List.all_append]
  simp [hk]
theorem okPre_false {n : Int} {s : List (Int × Int)} {k : Nat} (hk : k < s.length) (h : stepOk n k s[k] = false) : okPre n s s.length = false := by
  unfold okPre
  rw [List.all_eq_false]
  exact ⟨k, by simpa using hk, by simp [hk, h]⟩
theorem okS_of_pre {n : Nat} {s : List (Int × Int)} (h : okPre n s s.length = true) : OkS n s := by
  intro i hi
  unfold okPre at h
  rw [List.all_eq_true] at h
  have := h i (by simpa using hi)
  simp [hi, stepOk, inB] at this
  omega
theorem expsB_succ (rows : List (List Int)) (k : Nat) (hk : k < rows.length) : expsB (rows.take (k + 1)) = (expsB (rows.take k) && allB rows[k] 0 1000000) := by
  unfold expsB
  rw [List.take_succ_eq_append_getElem hk, List.all_append]
  simp
theorem expsB_false {rows : List (List Int)} {k : Nat} (hk : k < rows.length) (h : allB rows[k] 0 1000000 = false) : expsB rows = false := by
  unfold expsB
  rw [List.all_eq_false]
  exact ⟨_, List.getElem_mem hk, by simp [h]⟩

set_option maxRecDepth 100000 in
set_option maxHeartbeats 2000000 in
theorem plGood_any (B : Nat) (A1 A2 : Option Addr) (c1 c2 : Nat) (p : Pl) (w : World) (hB : B ≤ w.heap.size) (hls : p.s.length ≤ 2000000) (hlo : p.o.length ≤ 2000000)
    (hr : RdP w B A1 A2 p) :
    Calls Try.prog 84 #[.agg #[.int .i64 p.n, .slice A1 p.s.length c1, .slice A2 p.o.length c2]] w fun e w' => e = .returned (.bool (good p)) ∧ Below w.heap.size w w' := by
  have H := Lib.hid hr
  clear hr
  obtain ⟨g1, hg1⟩ : ∃ b, inB p.n 1 6 = b := ⟨_, rfl⟩
  cases g1 with
  | false =>
    have e : good p = false := by simp [good, hg1]
    rw [e]
    clear e
    go_enter Try.func84, Try.ntmps84
    go_wp2_with (go_at_call 85; refine (l1In_any _ _ _ _).mono ?_; rintro e w' ⟨rfl, rfl⟩)
    go_ret
    exact ⟨rfl, (Below.refl _ _).alloc (Nat.le_refl _) _⟩
  | true =>
  by_cases g2 : p.s.length ≤ 40
  case neg =>
    have e : good p = false := by simp [good, g2]
    rw [e]
    clear e
    have i2 : (40 : Int) < (p.s.length : Int) := by omega
    go_enter Try.func84, Try.ntmps84
    go_wp2_with (go_at_call 85; refine (l1In_any _ _ _ _).mono ?_; rintro e w' ⟨rfl, rfl⟩)
    go_ret
    exact ⟨rfl, (Below.refl _ _).alloc (Nat.le_refl _) _⟩
  case pos =>
  by_cases g3 : p.o.length ≤ 6
  case neg =>
    have e : good p = false := by simp [good, g3]
    rw [e]
    clear e
    have i2 : (p.s.length : Int) ≤ 40 := by omega
    have i3 : (6 : Int) < (p.o.length : Int) := by omega
    go_enter Try.func84, Try.ntmps84
    go_wp2_with (go_at_call 85; refine (l1In_any _ _ _ _).mono ?_; rintro e w' ⟨rfl, rfl⟩)
    go_ret
    exact ⟨rfl, (Below.refl _ _).alloc (Nat.le_refl _) _⟩
  case pos =>
  have i2 : (p.s.length : Int) ≤ 40 := by omega
  have i3 : (p.o.length : Int) ≤ 6 := by omega
  obtain ⟨n1, n2⟩ : 1 ≤ p.n ∧ p.n ≤ 6 := by simpa [inB] using hg1
  obtain ⟨N, hN⟩ : ∃ N : Nat, p.n = N := ⟨p.n.toNat, by omega⟩
  have eg : good p = (okPre p.n p.s p.s.length && (expsB (exps N p.s) && allB p.o 0 (p.n + p.s.length - 1))) := by
    have : p.n.toNat = N := by omega
    simp [good, hg1, g2, g3, this]
  rw [eg]
  have HN := Lib.hid hN
  clear eg hN
  go_enter Try.func84, Try.ntmps84
  go_wp2_with (go_at_call 85; refine (l1In_any _ _ _ _).mono ?_; rintro e w' ⟨rfl, rfl⟩)
  generalize hw1 : World.alloc w _ = w1
  obtain ⟨x0, x1, x2, xs, xb⟩ := box3 hw1
  clear hw1
  have X := Lib.hid xs
  have XB := Lib.hid xb
  have X0 := Lib.hid x0
  have X1 := Lib.hid x1
  have X2 := Lib.hid x2
  clear xs xb x0 x1 x2
  go_loopw [26] (fun i wr => ∃ (k : Nat), k ≤ p.s.length ∧ i = .int .i64 k ∧ okPre p.n p.s k = true ∧ Below (w.heap.size + 1) w1 wr) (fun i _ => p.s.length - (intOf i).toNat)
  case atStart => exact ⟨0, by omega, rfl, rfl, Below.refl _ _⟩
  case round =>
    obtain ⟨k, hk, rfl, hok, hbel⟩ := hrel
    have hsz : w.heap.size + 1 ≤ wr.heap.size := by have := X.out; have := hbel.size; omega
    have OK := Lib.hid hok
    clear hok
    have y0 := (hbel.cell (p := ⟨w.heap.size, 0, none⟩) (by simp)).trans X0.out
    have y1 := (hbel.cell (p := ⟨w.heap.size, 1, none⟩) (by simp)).trans X1.out
    have y2 := (hbel.cell (p := ⟨w.heap.size, 2, none⟩) (by simp)).trans X2.out
    have z0 := cell_kept y0
    by_cases hlt : k < p.s.length
    · obtain ⟨sb, off, rfl, hsb, hc1, hc2⟩ := ((H.out.1.below' XB.out hB).below' hbel (by omega)).stp hlt
      obtain ⟨gi, hgi⟩ : ∃ b, inB (p.s[k]).1 0 (p.s[k]).2 = b := ⟨_, rfl⟩
      cases gi with
      | false =>
        have e : (okPre p.n p.s p.s.length && (expsB (exps N p.s) && allB p.o 0 (p.n + p.s.length - 1))) = false := by rw [okPre_false hlt (by simp [stepOk, hgi])]; rfl
        have E := Lib.hid e
        clear e
        go_wp2_with (go_at_call 85; refine (l1In_any _ _ _ _).mono ?_; rintro e w' ⟨rfl, rfl⟩)
        go_ret
        exact ⟨ret_bool E.out.symm, XB.out.trans ((hbel.mono (by omega)).alloc (by omega) _)⟩
      | true =>
        by_cases hb : (p.s[k]).2 < p.n + k
        · have e : okPre p.n p.s (k + 1) = true := by rw [okPre_succ _ _ _ hlt, OK.out]; simp [stepOk, hgi, hb]
          have E := Lib.hid e
          clear e
          go_wp2_with (go_at_call 85; refine (l1In_any _ _ _ _).mono ?_; rintro e w' ⟨rfl, rfl⟩)
          go_roundw
          case rel => exact ⟨k + 1, by omega, by go_num, E.out, hbel.alloc hsz _⟩
          case measure => simp [intOf]; omega
        · have e : (okPre p.n p.s p.s.length && (expsB (exps N p.s) && allB p.o 0 (p.n + p.s.length - 1))) = false := by rw [okPre_false hlt (by simp [stepOk, hb])]; rfl
          have E := Lib.hid e
          have hb' : p.n + k ≤ (p.s[k]).2 := by omega
          clear e hb
          go_wp2_with (go_at_call 85; refine (l1In_any _ _ _ _).mono ?_; rintro e w' ⟨rfl, rfl⟩)
          go_ret
          exact ⟨ret_bool E.out.symm, XB.out.trans ((hbel.mono (by omega)).alloc (by omega) _)⟩
    · have hk' : k = p.s.length := by omega
      have hokN : OkS N p.s := by
        have h := OK.out
        rw [hk', HN.out] at h
        exact okS_of_pre h
      have eg : (okPre p.n p.s p.s.length && (expsB (exps N p.s) && allB p.o 0 (p.n + p.s.length - 1))) = (expsB (exps N p.s) && allB p.o 0 (p.n + p.s.length - 1)) := by
        have h := OK.out
        rw [hk'] at h
        rw [h]
        rfl
      have EG := Lib.hid eg
      have HOK := Lib.hid hokN
      have HBW := Lib.hid hbel
      have hpw := (H.out.below' XB.out hB).below' hbel (by omega)
      have HPW := Lib.hid hpw
      clear eg hokN hbel hpw hk'
      go_wp2_with fail
      go_at_call 130
      refine (plExponents_any B N _ _ _ _ p _ HN.out (by have := HN.out; omega) (by have := HN.out; omega) (by omega) (by omega) HOK.out HPW.out).mono ?_
      rintro e w2 ⟨A3, c3, rfl, hrows, hbel2⟩
      have hlt0 : w.heap.size < wr.heap.size := by omega
      have v0 := (hbel2.cell (p := ⟨w.heap.size, 0, none⟩) hlt0).trans y0
      have v1 := (hbel2.cell (p := ⟨w.heap.size, 1, none⟩) hlt0).trans y1
      have v2 := (hbel2.cell (p := ⟨w.heap.size, 2, none⟩) hlt0).trans y2
      have hro : Rd w2 B 1 A2 p.o.length (p.o.map I) := (HPW.out.below' hbel2 (by omega)).2
      have HRO := Lib.hid hro
      have hfin := ((HBW.out.mono (show w.heap.size ≤ w.heap.size + 1 by omega)).trans (hbel2.mono (show w.heap.size ≤ wr.heap.size by omega)))
      have HF := Lib.hid (XB.out.trans hfin)
      clear hfin hro y0 y1 y2 z0 hbel2 hsz hlt0 hlt
      obtain ⟨rows, hrw⟩ : ∃ rows, rows = exps N p.s := ⟨_, rfl⟩
      rw [← hrw] at hrows
      have hrl : rows.length ≤ 1000 := by rw [hrw, exps_length]; have := HN.out; omega
      have hr1 : (exps N p.s).length = rows.length := by rw [hrw]
      have hrk : OkR N rows := by rw [hrw]; have := exps_ok HOK.out p.s.length (Nat.le_refl _); rwa [List.take_of_length_le (Nat.le_refl _)] at this
      have HR := Lib.hid hrows
      have HK := Lib.hid hrk
      have HW := Lib.hid hrw
      rw [hr1]
      clear hrows hrw hrk hr1
      go_wp2
      go_loop [50] (fun i => ∃ j : Nat, j ≤ rows.length ∧ i = .int .i64 j ∧ expsB (rows.take j) = true) (fun i => rows.length - (intOf i).toNat)
      case atStart => exact ⟨0, by omega, rfl, rfl⟩
      case round =>
        obtain ⟨j, hj, rfl, hq⟩ := hrel
        have Q := Lib.hid hq
        clear hq
        by_cases hlt : j < rows.length
        · obtain ⟨g, B1, d1, rfl, hg, hcj, hoj⟩ := HR.out.at_ hlt
          have HO := Lib.hid hoj
          have hjl : (rows[j]).length ≤ 4000000 := by rw [(HK.out _ (List.getElem_mem hlt)).1]; have := HN.out; omega
          clear hoj
          obtain ⟨ga, hga⟩ : ∃ b, allB rows[j] 0 1000000 = b := ⟨_, rfl⟩
          cases ga with
          | true =>
            go_wp2_with (go_at_call 131; refine (l1All_any _ _ _ _ _ _ _ hjl HO.out.rd).mono ?_; rintro e w' ⟨rfl, rfl⟩)
            go_round
            case rel => exact ⟨j + 1, by omega, by go_num, by rw [expsB_succ _ _ hlt, Q.out, hga]; rfl⟩
            case measure => simp [intOf]; omega
          | false =>
            go_wp2_with (go_at_call 131; refine (l1All_any _ _ _ _ _ _ _ hjl HO.out.rd).mono ?_; rintro e w' ⟨rfl, rfl⟩)
            go_ret
            exact ⟨ret_bool (by rw [EG.out, ← HW.out, expsB_false hlt hga]; rfl), HF.out⟩
        · have e : expsB rows = true := by
            have := Q.out
            rwa [List.take_of_length_le (by omega)] at this
          have E := Lib.hid e
          clear e
          go_wp2_with fail
          go_at_call 131
          refine (l1All_any B _ _ _ _ _ _ (by omega) HRO.out).mono ?_
          rintro e w' ⟨rfl, rfl⟩
          go_wp2
          go_ret
          exact ⟨ret_bool (by rw [EG.out, ← HW.out, E.out]; rfl), HF.out⟩
end Go.Proofs.Ytbbjgcagkmlngab
/- The program's values of a plan: inputs, products. -/
namespace Go.Proofs.Ytbbjgcagkmlngab
open Go.RowKit

def fl6 (rows : List (List Int)) : List Value := rows.flatten.map I
def Six (rows : List (List Int)) : Prop := ∀ r ∈ rows, r.length = 6
def unit6 (i : Nat) : List Int := (List.replicate 6 (0 : Int)).set i 1
def units6 (n : Nat) : List (List Int) := (List.range n).map unit6

theorem flat_length {rows : List (List Int)} (h : Six rows) : rows.flatten.length = rows.length * 6 := by
  induction rows with
  | nil => rfl
  | cons r rows ih =>
    have h1 := h r (by simp)
    have h2 := ih (fun r' hr => h r' (by simp [hr]))
    simp at h2 ⊢
    omega
theorem fl6_length {rows : List (List Int)} (h : Six rows) : (fl6 rows).length = rows.length * 6 := by rw [fl6, List.length_map]; exact flat_length h
theorem flat_at {rows : List (List Int)} (h : Six rows) {k : Nat} (hk : k < rows.length) {j : Nat} (hj : j < 6) : rows.flatten[k * 6 + j]? = some ((rows[k]).getD j 0) := by
  induction rows generalizing k with
  | nil => simp at hk
  | cons r rows ih =>
    have h1 := h r (by simp)
    rw [List.flatten_cons]
    cases k with
    | zero =>
      rw [List.getElem?_append_left (by omega)]
      have hj' : j < r.length := by omega
      simp [hj']
    | succ k =>
      have h2 := ih (fun r' hr => h r' (by simp [hr])) (k := k) (by simpa using hk)
      rw [List.getElem?_append_right (by omega)]
      rw [show (k + 1) * 6 + j - r.length = k * 6 + j from by omega]
      simpa using h2
theorem fl6_at {rows : List (List Int)} (h : Six rows) {k : Nat} (hk : k < rows.length) {j : Nat} (hj : j < 6) : (fl6 rows)[k * 6 + j]? = some (I ((rows[k]).getD j 0)) := by
  rw [fl6, List.getElem?_map, flat_at h hk hj]
  rfl
theorem six_units (n : Nat) : Six (units6 n) := by
  intro r hr
  simp only [units6, List.mem_map] at hr
  obtain ⟨i, _, rfl⟩ := hr
  simp [unit6]

theorem info_exp : (Try.prog.info? 189).map (fun i => (i.zero, i.size, i.bytes)) = some (some (.agg #[.int .i64 0, .int .i64 0, .int .i64 0, .int .i64 0, .int .i64 0, .int .i64 0]), 6, 48) := by kernel_rfl

theorem made6 (v : Value) (n : Nat) : (madeCells #[v, v, v, v, v, v] (n * 6)).toList = List.replicate (n * 6) v := by
  apply List.ext_getElem?
  intro j
  by_cases hj : j < n * 6
  · have h6 : j % 6 = 0 ∨ j % 6 = 1 ∨ j % 6 = 2 ∨ j % 6 = 3 ∨ j % 6 = 4 ∨ j % 6 = 5 := by omega
    rcases h6 with h | h | h | h | h | h <;> simp [madeCells, hj, h]
  · simp [madeCells, hj]

set_option maxRecDepth 100000 in
set_option maxHeartbeats 2000000 in
theorem inputValues_any (N : Nat) (w : World) (h1 : 1 ≤ N) (h6 : N ≤ 6) :
    Calls Try.prog 134 #[.int .i64 N] w fun e w' =>
      ∃ A c, e = .returned (.agg #[.slice A N c]) ∧ w'.ownsRow w.heap.size 189 6 (.slice A N c) N (fl6 (units6 N)) ∧ Below w.heap.size w w' := by
  obtain ⟨i0, hi, hz0, hz1, hz2⟩ := info_parts info_exp
  have hmk : ∀ W : World, (Instr.makeSlice 102 (.int .i64 (N : Int)) (.int .i64 (N : Int))).run Try.prog W = .ok (.slice (some ⟨W.heap.size, 0, none⟩) N N) (W.alloc (.cells (madeCells #[.int .i64 0, .int .i64 0, .int .i64 0, .int .i64 0, .int .i64 0, .int .i64 0] (N * 6)) 189)) := fun W => by
    have hr := run_make (P := Try.prog) W 102 189 i0 _ Try.underlying102 hi hz0 .i64 .i64 N N (by omega) (Int.le_refl _) (by rw [hz2]; omega) (by omega)
    simp only [Int.toNat_natCast] at hr
    rw [hz1] at hr
    exact hr
  have hst : ∀ k, k < N → ((units6 k ++ List.replicate (N - k) (List.replicate 6 (0 : Int))).flatten).set (k * 6 + k) 1 = (units6 (k + 1) ++ List.replicate (N - (k + 1)) (List.replicate 6 (0 : Int))).flatten ∧
      (fl6 (units6 k ++ List.replicate (N - k) (List.replicate 6 (0 : Int))))[k * 6 + k]? = some (.int .i64 0) := by
    have hN : N = 1 ∨ N = 2 ∨ N = 3 ∨ N = 4 ∨ N = 5 ∨ N = 6 := by omega
    intro k hk
    have hk6 : k = 0 ∨ k = 1 ∨ k = 2 ∨ k = 3 ∨ k = 4 ∨ k = 5 := by omega
    rcases hN with rfl | rfl | rfl | rfl | rfl | rfl <;> rcases hk6 with rfl | rfl | rfl | rfl | rfl | rfl <;> first | omega | exact ⟨by decide, rfl⟩
  have hmade : ∀ W : World, W.heap.size = w.heap.size + 1 → (W.alloc (.cells (madeCells #[.int .i64 0, .int .i64 0, .int .i64 0, .int .i64 0, .int .i64 0, .int .i64 0] (N * 6)) 189)).ownsRow (w.heap.size + 1) 189 6 (.slice (some ⟨w.heap.size + 1, 0, none⟩) N N) N (fl6 (units6 0 ++ List.replicate (N - 0) (List.replicate 6 (0 : Int)))) := fun W hW => by
    have h := World.ownsRow_lit (base := w.heap.size + 1) (e := 189) (size := 6) W (madeCells #[.int .i64 0, .int .i64 0, .int .i64 0, .int .i64 0, .int .i64 0, .int .i64 0] (N * 6)) N (by omega) (by unfold maxLen; omega) (by simp [size_madeCells])
    rw [hW] at h
    have e : (madeCells #[Value.int .i64 0, .int .i64 0, .int .i64 0, .int .i64 0, .int .i64 0, .int .i64 0] (N * 6)).toList = fl6 (units6 0 ++ List.replicate (N - 0) (List.replicate 6 (0 : Int))) := by
      have e1 : (List.replicate N (List.replicate 6 (0 : Int))).flatten = List.replicate (N * 6) 0 := List.flatten_replicate_replicate
      rw [made6, Nat.sub_zero, show units6 0 = [] from rfl, List.nil_append, fl6, e1, List.map_replicate]
    rw [e] at h
    exact h
  have HST := Lib.hid hst
  have HM := Lib.hid hmade
  clear hst hmade hi hz0 hz1 hz2
  go_enter Try.func134, Try.ntmps134
  go_wp2
  clear hmk
  go_loopw [9] (fun i wr => ∃ k : Nat, k ≤ N ∧ i = .int .i64 k ∧ wr.ownsRow (w.heap.size + 1) 189 6 (.slice (some ⟨w.heap.size + 1, 0, none⟩) N N) N (fl6 (units6 k ++ List.replicate (N - k) (List.replicate 6 (0 : Int)))) ∧ Below w.heap.size w wr ∧
      wr.heap[w.heap.size]? = some (.cells #[.slice none 0 0] 104 (0, 0))) (fun i _ => N - (intOf i).toNat)
  case atStart => exact ⟨0, by omega, rfl, HM.out _ (by simp), (((Below.refl _ _).alloc (Nat.le_refl _) _).alloc (by simp) _), by rw [Below.heap_alloc _ _ _ (by simp)]; exact heap_alloc_new w _⟩
  case round =>
    obtain ⟨k, hk, rfl, hown, hbel, hres⟩ := hrel
    have RES := Lib.hid hres
    clear hres
    have OWN := Lib.hid hown
    have HB := Lib.hid hbel
    by_cases hlt : k < N
    · have hc : wr.cell? ⟨w.heap.size + 1, k * 6 + k, none⟩ = some (.int .i64 0) := by rw [hown.cellAt _ (by omega)]; exact (HST.out k hlt).2
      have hf : wr.frozen? ⟨w.heap.size + 1, k * 6 + k, none⟩ = false := hown.frozenAt _
      clear hown hbel
      go_wp2
      go_roundw
      case rel =>
        refine ⟨k + 1, by omega, by go_num, ?_, HB.out.setCell (by simp) _, by rw [Below.heap_setCell _ _ _ _ (by simp)]; exact RES.out⟩
        have h := (OWN.out.stored (k * 6 + k) (.int .i64 1)).1
        rw [fl6, show (Value.int .i64 1) = I 1 from rfl, ← List.map_set, (HST.out k hlt).1] at h
        exact h
      case measure => simp [intOf]; omega
    · clear hown hbel
      have hk' : k = N := by omega
      subst hk'
      have r0 : wr.cell? ⟨w.heap.size, 0, none⟩ = some (.slice none 0 0) := by rw [cell_of_row wr w.heap.size 0 _ _ (0, 0) RES.out]; rfl
      have r1 : wr.frozen? ⟨w.heap.size, 0, none⟩ = false := frozen_of_row wr w.heap.size 0 _ _ RES.out
      have r2 : ∀ v, (wr.setCell ⟨w.heap.size, 0, none⟩ v).cell? ⟨w.heap.size, 0, none⟩ = some v := fun v => cell_set_same r0 v
      go_wp2
      refine bodyPost_ret (v := .agg #[.slice (some ⟨w.heap.size + 1, 0, none⟩) k k]) (by simp [results, Try.results134, go_sem, r2]) rfl ?_
      refine ⟨_, _, rfl, ?_, HB.out.setCell (by simp) _⟩
      have h := ownsRow_setCell_below OWN.out (a := ⟨w.heap.size, 0, none⟩) (by simp) (.slice (some ⟨w.heap.size + 1, 0, none⟩) k k)
      rw [Nat.sub_self, List.replicate_zero, List.append_nil] at h
      exact own_base h (by omega)
end Go.Proofs.Ytbbjgcagkmlngab
/- The program's values of a plan: what is there, products. -/
namespace Go.Proofs.Ytbbjgcagkmlngab
open Go.RowKit

def hasB (x : Int) (n : Nat) : Bool := decide (0 ≤ x) && decide (x < n)
def hasAllB (l : List Int) (n : Nat) : Bool := l.all fun x => hasB x n

set_option maxHeartbeats 400000 in
theorem has_any (g o n c : Nat) (A : Option Addr) (x : Int) (w : World) (hc : w.cell? ⟨g, o, none⟩ = some (.slice A n c)) :
    Calls Try.prog 160 #[.pointer (some ⟨g, o, none⟩), .int .i64 x] w fun e w' => e = .returned (.bool (hasB x n)) ∧ w = w' := by
  by_cases h1 : 0 ≤ x <;> by_cases h2 : x < n
  all_goals
    go_enter Try.func160, Try.ntmps160
    go_wp2
    go_ret
    exact ⟨ret_bool (by simp [hasB, h1, h2]), rfl⟩

theorem hasAllB_take {l : List Int} {n k : Nat} (hk : k < l.length) : hasAllB (l.take (k + 1)) n = (hasAllB (l.take k) n && hasB l[k] n) := by
  unfold hasAllB
  rw [List.take_succ_eq_append_getElem hk, List.all_append]
  simp
theorem hasAllB_miss {l : List Int} {n k : Nat} (hk : k < l.length) (h : hasB l[k] n = false) : hasAllB l n = false := by
  unfold hasAllB
  rw [List.all_eq_false]
  exact ⟨_, List.getElem_mem hk, by simp [h]⟩

set_option maxHeartbeats 400000 in
theorem hasAll_any (B g o n c : Nat) (A A2 : Option Addr) (c2 : Nat) (l : List Int) (w : World) (hc : w.cell? ⟨g, o, none⟩ = some (.slice A n c)) (hm : l.length ≤ 4000000) (hr : Rd w B 1 A2 l.length (l.map I)) :
    Calls Try.prog 136 #[.pointer (some ⟨g, o, none⟩), .slice A2 l.length c2] w fun e w' => e = .returned (.bool (hasAllB l n)) ∧ w = w' := by
  have H := Lib.hid hr
  have HC := Lib.hid hc
  clear hr hc
  go_enter Try.func136, Try.ntmps136
  go_wp2
  go_loop [9] (fun i => ∃ k : Nat, k ≤ l.length ∧ i = .int .i64 k ∧ hasAllB (l.take k) n = true) (fun i => l.length - (intOf i).toNat)
  case atStart => exact ⟨0, by omega, rfl, rfl⟩
  case round =>
    obtain ⟨k, hk, rfl, hq⟩ := hrel
    have Q := Lib.hid hq
    clear hq
    by_cases hlt : k < l.length
    · obtain ⟨b, off, rfl, hb, hcell⟩ := H.out.int hlt
      obtain ⟨gi, hgi⟩ : ∃ b, hasB l[k] n = b := ⟨_, rfl⟩
      cases gi with
      | true =>
        go_wp2_with (go_at_call 160; refine (has_any _ _ _ _ _ _ _ HC.out).mono ?_; rintro e w' ⟨rfl, rfl⟩)
        go_round
        case rel => exact ⟨k + 1, by omega, by go_num, by rw [hasAllB_take hlt, Q.out, hgi]; rfl⟩
        case measure => simp [intOf]; omega
      | false =>
        go_wp2_with (go_at_call 160; refine (has_any _ _ _ _ _ _ _ HC.out).mono ?_; rintro e w' ⟨rfl, rfl⟩)
        go_ret
        exact ⟨ret_bool (hasAllB_miss hlt hgi).symm, rfl⟩
    · go_wp2
      go_ret
      refine ⟨ret_bool ?_, rfl⟩
      have := Q.out
      rw [List.take_of_length_le (by omega)] at this
      exact this.symm

/-- The product of two values, if a step may have it. -/
def mulI (rows : List (List Int)) (a b : Int) : Option (List Int) :=
  if decide (a ≤ b) && (hasB a rows.length && hasB b rows.length) then
    let r := List.zipWith (· + ·) (rows.getD a.toNat []) (rows.getD b.toNat [])
    if allB r 0 1000000 then some r else none
  else none
end Go.Proofs.Ytbbjgcagkmlngab
/- One product of the program. -/
namespace Go.Proofs.Ytbbjgcagkmlngab
open Go.RowKit

theorem six_form {l : List Int} (h : l.length = 6) : ∃ a0 a1 a2 a3 a4 a5, l = [a0, a1, a2, a3, a4, a5] := by
  match l, h with
  | [a0, a1, a2, a3, a4, a5], _ => exact ⟨a0, a1, a2, a3, a4, a5, rfl⟩

/-- What a product leaves. -/
def MulPost (B g o : Nat) (t : TypeId) (cs : Array Value) (rows : List (List Int)) (m : Option (List Int)) (w : World) (e : Ending) (w' : World) : Prop :=
  Below B w w' ∧ (match m with
    | none => e = .returned (.bool false)
    | some r => e = .returned (.bool true) ∧ ∃ A c, w'.heap[g]? = some (.cells (cs.setIfInBounds o (.slice A (rows.length + 1) c)) t (0, 0)) ∧
        w'.ownsRow B 189 6 (.slice A (rows.length + 1) c) (rows.length + 1) (fl6 (rows ++ [r])))

theorem mulPost_none {B g o : Nat} {t : TypeId} {cs : Array Value} {rows : List (List Int)} {m : Option (List Int)} {w w' : World} (hm : m = none) (hb : Below B w w') : MulPost B g o t cs rows m w (.returned (.bool false)) w' := by
  subst hm
  exact ⟨hb, rfl⟩

def pr (al bl : List Int) (k : Nat) : List Int := List.zipWith (· + ·) (al.take k) (bl.take k) ++ al.drop k

set_option maxRecDepth 100000 in
set_option maxHeartbeats 2000000 in
theorem multiply_any (B g o : Nat) (t : TypeId) (cs : Array Value) (A : Option Addr) (c : Nat) (rows : List (List Int)) (a b : Int) (w : World)
    (hB : B ≤ g) (hblk : w.heap[g]? = some (.cells cs t (0, 0))) (ht : t ≠ 189) (hcs : cs[o]? = some (.slice A rows.length c))
    (hown : w.ownsRow B 189 6 (.slice A rows.length c) rows.length (fl6 rows)) (hsix : Six rows) (hrng : ∀ r ∈ rows, ∀ x ∈ r, 0 ≤ x ∧ x ≤ 1000000) (hlen : rows.length ≤ 1000) (hBs : B ≤ w.heap.size) :
    Calls Try.prog 135 #[.pointer (some ⟨g, o, none⟩), .agg #[.int .i64 a, .int .i64 b]] w (MulPost B g o t cs rows (mulI rows a b) w) := by
  have hgl : g < w.heap.size := (Array.getElem?_eq_some_iff.1 hblk).1
  have hc0 : w.cell? ⟨g, o, none⟩ = some (.slice A rows.length c) := by rw [cell_of_row w g o cs t (0, 0) hblk]; exact hcs
  have hf0 : w.frozen? ⟨g, o, none⟩ = false := frozen_of_row w g o cs t hblk
  have HBLK := Lib.hid hblk
  have HCS := Lib.hid hcs
  have HOWN := Lib.hid hown
  have HSIX := Lib.hid hsix
  have HRNG := Lib.hid hrng
  have HT := Lib.hid ht
  have hc1 := cell_kept hc0
  clear hblk hcs hown hsix hrng ht
  by_cases h1 : a ≤ b
  case neg =>
    have e : mulI rows a b = none := by simp [mulI, h1]
    have E := Lib.hid e
    have h1' : b < a := by omega
    clear e h1
    go_enter Try.func135, Try.ntmps135
    go_wp2
    go_ret
    exact mulPost_none E.out ((Below.refl _ _).alloc hBs _)
  case pos =>
  obtain ⟨b2, hb2⟩ : ∃ x, hasB a rows.length = x := ⟨_, rfl⟩
  cases b2 with
  | false =>
    have e : mulI rows a b = none := by simp [mulI, hb2]
    have E := Lib.hid e
    clear e
    go_enter Try.func135, Try.ntmps135
    go_wp2_with (go_at_call 160; refine (has_any _ _ _ _ _ _ _ (hc1 _)).mono ?_; rintro e w' ⟨rfl, rfl⟩)
    go_ret
    exact mulPost_none E.out ((Below.refl _ _).alloc hBs _)
  | true =>
  obtain ⟨b3, hb3⟩ : ∃ x, hasB b rows.length = x := ⟨_, rfl⟩
  cases b3 with
  | false =>
    have e : mulI rows a b = none := by simp [mulI, hb3]
    have E := Lib.hid e
    clear e
    go_enter Try.func135, Try.ntmps135
    go_wp2_with (go_at_call 160; refine (has_any _ _ _ _ _ _ _ (hc1 _)).mono ?_; rintro e w' ⟨rfl, rfl⟩)
    go_ret
    exact mulPost_none E.out ((Below.refl _ _).alloc hBs _)
  | true =>
  have ha' : 0 ≤ a ∧ a < rows.length := by simpa [hasB] using hb2
  have hb' : 0 ≤ b ∧ b < rows.length := by simpa [hasB] using hb3
  obtain ⟨i, hi⟩ : ∃ i : Nat, a = i := ⟨a.toNat, by omega⟩
  obtain ⟨j, hj⟩ : ∃ j : Nat, b = j := ⟨b.toNat, by omega⟩
  subst hi
  subst hj
  have hil : i < rows.length := by omega
  have hjl : j < rows.length := by omega
  obtain ⟨a0, a1, a2, a3, a4, a5, hal⟩ := six_form (HSIX.out _ (List.getElem_mem hil))
  obtain ⟨d0, d1, d2, d3, d4, d5, hbl⟩ := six_form (HSIX.out _ (List.getElem_mem hjl))
  obtain ⟨gr, rfl, hgr, hgrl, hcell, _⟩ := own_at HOWN.out (by omega)
  have ca : ∀ q, q < 6 → w.cell? ⟨gr, i * 6 + q, none⟩ = some (I ([a0, a1, a2, a3, a4, a5].getD q 0)) := fun q hq => by rw [hcell _ (by omega), fl6_at HSIX.out hil hq, hal]
  have cb : ∀ q, q < 6 → w.cell? ⟨gr, j * 6 + q, none⟩ = some (I ([d0, d1, d2, d3, d4, d5].getD q 0)) := fun q hq => by rw [hcell _ (by omega), fl6_at HSIX.out hjl hq, hbl]
  have em : mulI rows i j = (if allB (List.zipWith (· + ·) [a0, a1, a2, a3, a4, a5] [d0, d1, d2, d3, d4, d5]) 0 1000000 then some (List.zipWith (· + ·) [a0, a1, a2, a3, a4, a5] [d0, d1, d2, d3, d4, d5]) else none) := by
    unfold mulI
    rw [hb2, hb3]
    simp [hal, hbl, hil, hjl, h1]
  have ra : ∀ q, q < 6 → 0 ≤ [a0, a1, a2, a3, a4, a5].getD q 0 ∧ [a0, a1, a2, a3, a4, a5].getD q 0 ≤ 1000000 := fun q hq => by
    have := HRNG.out _ (List.getElem_mem hil)
    rw [hal] at this
    have h := this ([a0, a1, a2, a3, a4, a5].getD q 0) (by simp [hq])
    exact h
  have rb : ∀ q, q < 6 → 0 ≤ [d0, d1, d2, d3, d4, d5].getD q 0 ∧ [d0, d1, d2, d3, d4, d5].getD q 0 ≤ 1000000 := fun q hq => by
    have := HRNG.out _ (List.getElem_mem hjl)
    rw [hbl] at this
    have h := this ([d0, d1, d2, d3, d4, d5].getD q 0) (by simp [hq])
    exact h
  have CA := Lib.hid ca
  have CB := Lib.hid cb
  have RA := Lib.hid ra
  have RB := Lib.hid rb
  have EM := Lib.hid em
  have C0 := Lib.hid hc0
  have HAL := Lib.hid hal
  have HBL := Lib.hid hbl
  clear ca cb ra rb em hal hbl hcell hc0
  go_enter Try.func135, Try.ntmps135
  go_wp2_with (go_at_call 160; refine (has_any _ _ _ _ _ _ _ (hc1 _)).mono ?_; rintro e w' ⟨rfl, rfl⟩)
  generalize hw1 : World.alloc w _ = w1
  obtain ⟨x0, x1, xs, xb⟩ := box2 hw1
  clear hc1 hf0 hw1
  have XB := Lib.hid xb
  have XS := Lib.hid xs
  clear xb xs
  have f0 := (XB.out.cell (p := ⟨g, o, none⟩) hgl).trans C0.out
  have fa : ∀ q, q < 6 → w1.cell? ⟨gr, i * 6 + q, none⟩ = some (I ([a0, a1, a2, a3, a4, a5].getD q 0)) := fun q hq => (XB.out.cell (p := ⟨gr, i * 6 + q, none⟩) hgrl).trans (CA.out q hq)
  have fb : ∀ q, q < 6 → w1.cell? ⟨gr, j * 6 + q, none⟩ = some (I ([d0, d1, d2, d3, d4, d5].getD q 0)) := fun q hq => (XB.out.cell (p := ⟨gr, j * 6 + q, none⟩) hgrl).trans (CB.out q hq)
  have FA := Lib.hid fa
  have FB := Lib.hid fb
  have ii : (i : Int) < (rows.length : Int) := by omega
  have ij : (j : Int) < (rows.length : Int) := by omega
  clear fa fb
  have HS : (fun x : World => x.cell? ⟨g, o, none⟩ = some (.slice (some ⟨gr, 0, none⟩) rows.length c) ∧ x.cell? ⟨w.heap.size, 0, none⟩ = some (.int .i64 i) ∧ x.cell? ⟨gr, i * 6, none⟩ = some (.int .i64 a0) ∧ x.cell? ⟨gr, i * 6 + 1, none⟩ = some (.int .i64 a1) ∧
      x.cell? ⟨gr, i * 6 + 2, none⟩ = some (.int .i64 a2) ∧ x.cell? ⟨gr, i * 6 + 3, none⟩ = some (.int .i64 a3) ∧ x.cell? ⟨gr, i * 6 + 4, none⟩ = some (.int .i64 a4) ∧ x.cell? ⟨gr, i * 6 + 5, none⟩ = some (.int .i64 a5)) w1.drew :=
    ⟨f0, x0, FA.out 0 (by omega), FA.out 1 (by omega), FA.out 2 (by omega), FA.out 3 (by omega), FA.out 4 (by omega), FA.out 5 (by omega)⟩
  refine wp_region_T (fun x : World => x.cell? ⟨g, o, none⟩ = some (.slice (some ⟨gr, 0, none⟩) rows.length c) ∧ x.cell? ⟨w.heap.size, 0, none⟩ = some (.int .i64 i) ∧ x.cell? ⟨gr, i * 6, none⟩ = some (.int .i64 a0) ∧ x.cell? ⟨gr, i * 6 + 1, none⟩ = some (.int .i64 a1) ∧
      x.cell? ⟨gr, i * 6 + 2, none⟩ = some (.int .i64 a2) ∧ x.cell? ⟨gr, i * 6 + 3, none⟩ = some (.int .i64 a3) ∧ x.cell? ⟨gr, i * 6 + 4, none⟩ = some (.int .i64 a4) ∧ x.cell? ⟨gr, i * 6 + 5, none⟩ = some (.int .i64 a5)) [0, 1, 2, 3, 4, 5, 6, 7] [3, 5, 7] (.lp 0 (.lp 1 (.lp 2 (.lp 4 (.ls 3 (.ls 5 (.lp 6 (.ls 7 (.hv 8 (.hv 9 (.done))))))))))) (by kernel_rfl) (by kernel_rfl) ?_
  have HS2 := Lib.hid HS
  clear f0 x0 HS
  (repeat (refine T_lp rfl (fun K hK => ?_); go_simp; refine hK _ ?_; clear hK K))
  refine T_ls1 (v := .slice (some ⟨gr, 0, none⟩) rows.length c) rfl rfl HS2.out (fun x hx => (by obtain ⟨h1, h2, _⟩ := hx; go_simp)) (fun K hK => ?_)
  (go_simp; refine hK _ ?_; clear hK K)
  refine T_ls1 (v := .int .i64 i) rfl rfl HS2.out (fun x hx => (by obtain ⟨h1, h2, _⟩ := hx; go_simp)) (fun K hK => ?_)
  (go_simp; refine hK _ ?_; clear hK K)
  (repeat (refine T_lp rfl (fun K hK => ?_); go_simp; refine hK _ ?_; clear hK K))
  refine T_ls1 (v := .agg #[.int .i64 a0, .int .i64 a1, .int .i64 a2, .int .i64 a3, .int .i64 a4, .int .i64 a5]) rfl rfl HS2.out (fun x hx => (by obtain ⟨h1, h2, h3, h4, h5, h6, h7, h8⟩ := hx; go_simp)) (fun K hK => ?_)
  (go_simp; refine hK _ ?_; clear hK K)
  refine T_hvS rfl (fun K hK => ?_)
  go_simp
  refine hK _ _ ⟨?_, ?_, ?_, ?_, ?_, ?_, ?_, ?_⟩ ?_
  · exact cell_kept HS2.out.1 _
  · exact cell_kept HS2.out.2.1 _
  · exact cell_kept HS2.out.2.2.1 _
  · exact cell_kept HS2.out.2.2.2.1 _
  · exact cell_kept HS2.out.2.2.2.2.1 _
  · exact cell_kept HS2.out.2.2.2.2.2.1 _
  · exact cell_kept HS2.out.2.2.2.2.2.2.1 _
  · exact cell_kept HS2.out.2.2.2.2.2.2.2 _
  clear hK K
  (refine T_hv rfl (by kernel_rfl) (fun K hK => ?_); go_simp; refine hK _ _ ?_; clear hK K)
  refine T_done ?_
  go_wp2
  generalize hw2 : World.drew (World.alloc w1 _) = w2
  have hgp : w2.heap[w1.heap.size]? = some (.cells #[.int .i64 a0, .int .i64 a1, .int .i64 a2, .int .i64 a3, .int .i64 a4, .int .i64 a5] 189 (0, 0)) := by rw [← hw2]; exact heap_alloc_new w1 _
  have hb12 : Below w1.heap.size w1 w2 := by rw [← hw2]; exact ((Below.refl _ _).alloc (Nat.le_refl _) _).drew
  have hs2 : w2.heap.size = w1.heap.size + 1 := by rw [← hw2]; simp
  clear hw2
  have hsz1 : w1.heap.size = w.heap.size + 1 := XS.out
  have f0 : w2.cell? ⟨g, o, none⟩ = some (.slice (some ⟨gr, 0, none⟩) rows.length c) := (hb12.cell (p := ⟨g, o, none⟩) (by simp only []; omega)).trans HS2.out.1
  have f1 : w2.cell? ⟨w.heap.size, 1, none⟩ = some (.int .i64 j) := (hb12.cell (p := ⟨w.heap.size, 1, none⟩) (by simp only []; omega)).trans x1
  have hgr1 : gr < w1.heap.size := by omega
  have g0 : w2.cell? ⟨gr, j * 6, none⟩ = some (.int .i64 d0) := (hb12.cell (p := ⟨gr, j * 6, none⟩) hgr1).trans (FB.out 0 (by omega))
  have g1 : w2.cell? ⟨gr, j * 6 + 1, none⟩ = some (.int .i64 d1) := (hb12.cell (p := ⟨gr, j * 6 + 1, none⟩) hgr1).trans (FB.out 1 (by omega))
  have g2 : w2.cell? ⟨gr, j * 6 + 2, none⟩ = some (.int .i64 d2) := (hb12.cell (p := ⟨gr, j * 6 + 2, none⟩) hgr1).trans (FB.out 2 (by omega))
  have g3 : w2.cell? ⟨gr, j * 6 + 3, none⟩ = some (.int .i64 d3) := (hb12.cell (p := ⟨gr, j * 6 + 3, none⟩) hgr1).trans (FB.out 3 (by omega))
  have g4 : w2.cell? ⟨gr, j * 6 + 4, none⟩ = some (.int .i64 d4) := (hb12.cell (p := ⟨gr, j * 6 + 4, none⟩) hgr1).trans (FB.out 4 (by omega))
  have g5 : w2.cell? ⟨gr, j * 6 + 5, none⟩ = some (.int .i64 d5) := (hb12.cell (p := ⟨gr, j * 6 + 5, none⟩) hgr1).trans (FB.out 5 (by omega))
  have HGP := Lib.hid hgp
  have HB12 := Lib.hid hb12
  have HS3 := Lib.hid hs2
  have HSZ1 := Lib.hid hsz1
  clear hgp hb12 hs2 hsz1
  refine wp_region_Tw [0, 1, 2, 3, 4, 5, 6, 7, 8] [3, 5, 7] (.lp 0 (.lp 1 (.lp 2 (.lp 4 (.lp 8 (.ls 3 (.ls 5 (.lp 6 (.ls 7 (.done)))))))))) (by kernel_rfl) (by kernel_rfl) ?_
  (repeat (first | (refine T_lp rfl (fun K hK => ?_); go_simp; refine hK _ ?_; clear hK K) | (refine T_ls rfl rfl (fun K hK => ?_); go_simp; refine hK _ ?_; clear hK K)))
  refine T_done ?_
  go_wp2
  clear g0 g1 g2 g3 g4 g5 f1 x1
  obtain ⟨al, hal⟩ : ∃ al, al = [a0, a1, a2, a3, a4, a5] := ⟨_, rfl⟩
  obtain ⟨bl, hbl⟩ : ∃ bl, bl = [d0, d1, d2, d3, d4, d5] := ⟨_, rfl⟩
  have HAL2 := Lib.hid hal
  have HBL2 := Lib.hid hbl
  clear hal hbl
  go_loopw [43] (fun q wr => ∃ k : Nat, k ≤ 6 ∧ q = .int .i64 k ∧ (∀ m, m < k → al.getD m 0 + bl.getD m 0 ≤ 1000000) ∧ w2.drew.grownBy wr (some w1.heap.size) ∧ wr.heap[w1.heap.size]? = some (.cells ((pr al bl k).map I).toArray 189 (0, 0))) (fun q _ => 6 - (intOf q).toNat)
  case atStart =>
    refine ⟨0, by omega, rfl, fun m hm => absurd hm (by omega), World.grownBy.refl _ _, ?_⟩
    rw [HAL2.out, HBL2.out]
    exact HGP.out
  case round =>
    obtain ⟨k, hk, rfl, hle, hgr2, hblk⟩ := hrel
    have HLE := Lib.hid hle
    have HG := Lib.hid hgr2
    have HBK := Lib.hid hblk
    clear hle hgr2 hblk
    by_cases hlt : k < 6
    · obtain ⟨x, hx⟩ : ∃ x, al.getD k 0 = x := ⟨_, rfl⟩
      obtain ⟨y, hy⟩ : ∃ y, bl.getD k 0 = y := ⟨_, rfl⟩
      have hx0 : 0 ≤ x ∧ x ≤ 1000000 := by have := RA.out k hlt; rw [← HAL2.out, hx] at this; exact this
      have hy0 : 0 ≤ y ∧ y ≤ 1000000 := by have := RB.out k hlt; rw [← HBL2.out, hy] at this; exact this
      have hidx : ∀ W, (Instr.index 189 (.agg #[.int .i64 d0, .int .i64 d1, .int .i64 d2, .int .i64 d3, .int .i64 d4, .int .i64 d5]) (.int .i64 (k : Int))).run Try.prog W = .ok (.int .i64 y) W := by
        have hk6 : k = 0 ∨ k = 1 ∨ k = 2 ∨ k = 3 ∨ k = 4 ∨ k = 5 := by omega
        rw [HBL2.out] at hy
        rcases hk6 with rfl | rfl | rfl | rfl | rfl | rfl <;> (subst hy; intro W; kernel_rfl)
      have hpk : (pr al bl k)[k]? = some x := by
        have hk6 : k = 0 ∨ k = 1 ∨ k = 2 ∨ k = 3 ∨ k = 4 ∨ k = 5 := by omega
        rw [HAL2.out] at hx
        rw [HAL2.out, HBL2.out]
        rcases hk6 with rfl | rfl | rfl | rfl | rfl | rfl <;> (subst hx; rfl)
      have hset : (pr al bl k).set k (x + y) = pr al bl (k + 1) := by
        have hk6 : k = 0 ∨ k = 1 ∨ k = 2 ∨ k = 3 ∨ k = 4 ∨ k = 5 := by omega
        rw [HAL2.out] at hx
        rw [HBL2.out] at hy
        rw [HAL2.out, HBL2.out]
        rcases hk6 with rfl | rfl | rfl | rfl | rfl | rfl <;> (subst hx; subst hy; rfl)
      have hc : wr.cell? ⟨w1.heap.size, k, none⟩ = some (.int .i64 x) := by rw [cell_of_row wr w1.heap.size k _ _ (0, 0) HBK.out]; simp [hpk, I]
      have hf : wr.frozen? ⟨w1.heap.size, k, none⟩ = false := frozen_of_row wr w1.heap.size k _ _ HBK.out
      have HX := Lib.hid hx
      have HY := Lib.hid hy
      have HSET := Lib.hid hset
      clear hx hy hset hpk
      by_cases hs : x + y ≤ 1000000
      · go_wp2
        go_roundw
        case rel =>
          refine ⟨k + 1, by omega, by go_num, ?_, grown_set HG.out _, ?_⟩
          · intro m hm
            by_cases hmk : m = k
            · rw [hmk, HX.out, HY.out]; exact hs
            · exact HLE.out m (by omega)
          · rw [heap_setCell_same wr w1.heap.size k _ _ _ HBK.out]
            simp only [List.setIfInBounds_toArray]
            rw [show (Value.int .i64 (x + y)) = I (x + y) from rfl, ← List.map_set, HSET.out]
        case measure => simp [intOf]; omega
      · go_wp2
        go_ret
        have e : mulI rows i j = none := by
          rw [EM.out, if_neg]
          rw [Bool.not_eq_true]
          unfold allB
          rw [List.all_eq_false]
          refine ⟨x + y, ?_, by simp [inB]; omega⟩
          rw [← HX.out, ← HY.out, HAL2.out, HBL2.out]
          have hk6 : k = 0 ∨ k = 1 ∨ k = 2 ∨ k = 3 ∨ k = 4 ∨ k = 5 := by omega
          rcases hk6 with rfl | rfl | rfl | rfl | rfl | rfl <;> simp
        refine mulPost_none e (((XB.out.mono hBs).trans (HB12.out.mono (by have := HSZ1.out; omega))).trans ?_)
        have hB1 : B ≤ w1.heap.size := by have := HSZ1.out; omega
        exact (((Below.refl B w2).drew).grown HG.out (by have := HS3.out; simp; omega) (fun q hq => by injection hq with hq; omega)).setCell hB1 _
    · have hk' : k = 6 := by omega
      subst hk'
      clear hlt hk
      have hpr : (pr al bl 6).map I = [I (a0 + d0), I (a1 + d1), I (a2 + d2), I (a3 + d3), I (a4 + d4), I (a5 + d5)] := by rw [HAL2.out, HBL2.out]; rfl
      have hb6 : wr.heap[w1.heap.size]? = some (.cells #[I (a0 + d0), I (a1 + d1), I (a2 + d2), I (a3 + d3), I (a4 + d4), I (a5 + d5)] 189 (0, 0)) := by rw [HBK.out, hpr]
      have p0 : wr.cell? ⟨w1.heap.size, 0, none⟩ = some (.int .i64 (a0 + d0)) := by rw [cell_of_row wr w1.heap.size 0 _ _ (0, 0) hb6]; rfl
      have p1 : wr.cell? ⟨w1.heap.size, 1, none⟩ = some (.int .i64 (a1 + d1)) := by rw [cell_of_row wr w1.heap.size 1 _ _ (0, 0) hb6]; rfl
      have p2 : wr.cell? ⟨w1.heap.size, 2, none⟩ = some (.int .i64 (a2 + d2)) := by rw [cell_of_row wr w1.heap.size 2 _ _ (0, 0) hb6]; rfl
      have p3 : wr.cell? ⟨w1.heap.size, 3, none⟩ = some (.int .i64 (a3 + d3)) := by rw [cell_of_row wr w1.heap.size 3 _ _ (0, 0) hb6]; rfl
      have p4 : wr.cell? ⟨w1.heap.size, 4, none⟩ = some (.int .i64 (a4 + d4)) := by rw [cell_of_row wr w1.heap.size 4 _ _ (0, 0) hb6]; rfl
      have p5 : wr.cell? ⟨w1.heap.size, 5, none⟩ = some (.int .i64 (a5 + d5)) := by rw [cell_of_row wr w1.heap.size 5 _ _ (0, 0) hb6]; rfl
      have hsz1 : w1.heap.size = w.heap.size + 1 := HSZ1.out
      have hg1 : g < w1.heap.size := by omega
      have hgw2 : w2.drew.heap[g]? = some (.cells cs t (0, 0)) := (HB12.out.block g hg1).trans ((XB.out.block g hgl).trans HBLK.out)
      have hgwr : wr.heap[g]? = some (.cells cs t (0, 0)) := (HG.out.block g (by have := HS3.out; simp; omega) (by intro h; injection h with h; omega)).trans hgw2
      have q0 : wr.cell? ⟨g, o, none⟩ = some (.slice (some ⟨gr, 0, none⟩) rows.length c) := by rw [cell_of_row wr g o cs t (0, 0) hgwr]; exact HCS.out
      have hown2 : wr.ownsRow B 189 6 (.slice (some ⟨gr, 0, none⟩) rows.length c) rows.length (fl6 rows) := by
        refine World.ownsRow.kept (w := w2.drew) (own_below' (own_below HOWN.out XB.out) HB12.out.drew (Nat.le_refl _)) HG.out (.inr ?_)
        simp only [Value.ownBlock, ne_eq, Option.some.injEq]
        omega
      have HOWN2 := Lib.hid hown2
      have HGWR := Lib.hid hgwr
      have HSW := (show w1.heap.size < wr.heap.size from (Array.getElem?_eq_some_iff.1 hb6).1)
      clear hpr hb6 hgw2 hgwr hown2 hsz1
      go_wp2
      have HS4 : (fun x : World => x.cell? ⟨g, o, none⟩ = some (.slice (some ⟨gr, 0, none⟩) rows.length c) ∧ x.cell? ⟨w1.heap.size, 0, none⟩ = some (.int .i64 (a0 + d0)) ∧ x.cell? ⟨w1.heap.size, 1, none⟩ = some (.int .i64 (a1 + d1)) ∧
          x.cell? ⟨w1.heap.size, 2, none⟩ = some (.int .i64 (a2 + d2)) ∧ x.cell? ⟨w1.heap.size, 3, none⟩ = some (.int .i64 (a3 + d3)) ∧ x.cell? ⟨w1.heap.size, 4, none⟩ = some (.int .i64 (a4 + d4)) ∧ x.cell? ⟨w1.heap.size, 5, none⟩ = some (.int .i64 (a5 + d5))) wr.drew := ⟨q0, p0, p1, p2, p3, p4, p5⟩
      have HS5 := Lib.hid HS4
      clear q0 p0 p1 p2 p3 p4 p5 HS4
      refine wp_region_T (fun x : World => x.cell? ⟨g, o, none⟩ = some (.slice (some ⟨gr, 0, none⟩) rows.length c) ∧ x.cell? ⟨w1.heap.size, 0, none⟩ = some (.int .i64 (a0 + d0)) ∧ x.cell? ⟨w1.heap.size, 1, none⟩ = some (.int .i64 (a1 + d1)) ∧
          x.cell? ⟨w1.heap.size, 2, none⟩ = some (.int .i64 (a2 + d2)) ∧ x.cell? ⟨w1.heap.size, 3, none⟩ = some (.int .i64 (a3 + d3)) ∧ x.cell? ⟨w1.heap.size, 4, none⟩ = some (.int .i64 (a4 + d4)) ∧ x.cell? ⟨w1.heap.size, 5, none⟩ = some (.int .i64 (a5 + d5))) [0, 1, 2, 3, 4, 5, 8, 9] [4, 5] (.lp 0 (.lp 1 (.lp 2 (.lp 3 (.ls 4 (.ls 5 (.hv 6 (.hv 7 (.lp 8 (.lp 9 (.hv 10 (.done)))))))))))) (by kernel_rfl) (by kernel_rfl) ?_
      (repeat (refine T_lp rfl (fun K hK => ?_); go_simp; refine hK _ ?_; clear hK K))
      refine T_ls1 (v := .slice (some ⟨gr, 0, none⟩) rows.length c) rfl rfl HS5.out (fun x hx => (by obtain ⟨h1, h2, _⟩ := hx; go_simp)) (fun K hK => ?_)
      (go_simp; refine hK _ ?_; clear hK K)
      refine T_ls1 (v := .agg #[.int .i64 (a0 + d0), .int .i64 (a1 + d1), .int .i64 (a2 + d2), .int .i64 (a3 + d3), .int .i64 (a4 + d4), .int .i64 (a5 + d5)]) rfl rfl HS5.out (fun x hx => (by obtain ⟨h1, h2, h3, h4, h5, h6, h7⟩ := hx; go_simp)) (fun K hK => ?_)
      (go_simp; refine hK _ ?_; clear hK K)
      refine T_hvS rfl (fun K hK => ?_)
      go_simp
      refine hK _ _ ⟨cell_kept HS5.out.1 _, cell_kept HS5.out.2.1 _, cell_kept HS5.out.2.2.1 _, cell_kept HS5.out.2.2.2.1 _, cell_kept HS5.out.2.2.2.2.1 _, cell_kept HS5.out.2.2.2.2.2.1 _, cell_kept HS5.out.2.2.2.2.2.2 _⟩ ?_
      clear hK K
      refine T_hv rfl (by kernel_rfl) (fun K hK => ?_)
      refine step_appN Try.underlying102 info_exp rfl (by omega) (by omega) rfl (.tmp 62) (.tmp 64) rfl B rows.length _ (fl6 rows) rfl (HOWN2.out.alloc _) wr.heap.size 1 [I (a0 + d0), I (a1 + d1), I (a2 + d2), I (a3 + d3), I (a4 + d4), I (a5 + d5)] rfl rfl ?_ ?_ (by omega) (by simp; omega) ?_
      · intro q hq
        have hk6 : q = 0 ∨ q = 1 ∨ q = 2 ∨ q = 3 ∨ q = 4 ∨ q = 5 := by omega
        rcases hk6 with rfl | rfl | rfl | rfl | rfl | rfl <;> (rw [World.cell?_drew, World.cell?_alloc_at _ _ _ _ rfl]; rfl)
      · intro u hu
        simp only [List.mem_cons, List.not_mem_nil, or_false] at hu
        rcases hu with rfl | rfl | rfl | rfl | rfl | rfl <;> rfl
      intro A4 c4 w4 hown4 hg4 hbel4
      have hg5 : w4.heap[g]? = some (.cells cs t (0, 0)) := by
        refine (hg4.block g ?_ ?_).trans ?_
        · have := (Array.getElem?_eq_some_iff.1 HGWR.out).1
          simp; omega
        · exact own_ne_blk HOWN2.out HGWR.out HT.out
        · exact (Below.heap_alloc wr _ g (Array.getElem?_eq_some_iff.1 HGWR.out).1).trans HGWR.out
      have k0 : w4.cell? ⟨g, o, none⟩ = some (.slice (some ⟨gr, 0, none⟩) rows.length c) := by rw [cell_of_row w4 g o cs t (0, 0) hg5]; exact HCS.out
      have k1 : w4.frozen? ⟨g, o, none⟩ = false := frozen_of_row w4 g o cs t hg5
      have K5 := Lib.hid hg5
      clear hg5
      (go_simp; refine hK _ _ ?_; clear hK K)
      (repeat (first | (refine T_lp rfl (fun K hK => ?_); go_simp; refine hK _ ?_; clear hK K) | (refine T_ls rfl rfl (fun K hK => ?_); go_simp; refine hK _ ?_; clear hK K)))
      (refine T_hv rfl (by kernel_rfl) (fun K hK => ?_); go_simp; refine hK _ _ ?_; clear hK K)
      refine T_done ?_
      go_wp2
      go_ret
      have hB1 : B ≤ w1.heap.size := by have := HSZ1.out; omega
      refine ⟨((XB.out.mono hBs).trans (HB12.out.mono hB1)).trans ((((((Below.refl B w2).drew).grown HG.out (by have := HS3.out; simp; omega) (fun q hq => by injection hq with hq; omega)).alloc (by omega) _).drew).trans (hbel4.setCell hB _) |> id), ?_⟩
      rw [EM.out, if_pos]
      · refine ⟨rfl, A4, c4, ?_, ?_⟩
        · rw [heap_setCell_same w4 g o cs t _ K5.out]
        · have h := own_set (o := o) hown4 K5.out HT.out (.slice A4 (rows.length + 1) c4)
          have e : fl6 (rows ++ [List.zipWith (· + ·) [a0, a1, a2, a3, a4, a5] [d0, d1, d2, d3, d4, d5]]) = fl6 rows ++ [I (a0 + d0), I (a1 + d1), I (a2 + d2), I (a3 + d3), I (a4 + d4), I (a5 + d5)] := by
            simp [fl6]
          rw [e]
          exact h
      · unfold allB
        rw [List.all_eq_true]
        intro x hx
        rw [List.mem_iff_getElem] at hx
        obtain ⟨q, hq, rfl⟩ := hx
        have hq6 : q < 6 := by simpa using hq
        have l1 := HLE.out q hq6
        have l2 := RA.out q hq6
        have l3 := RB.out q hq6
        rw [HAL2.out, HBL2.out] at l1
        have hk6 : q = 0 ∨ q = 1 ∨ q = 2 ∨ q = 3 ∨ q = 4 ∨ q = 5 := by omega
        rcases hk6 with rfl | rfl | rfl | rfl | rfl | rfl <;> (simp at l1 l2 l3; simp [inB]; omega)
end Go.Proofs.Ytbbjgcagkmlngab
/- A plan found valid by the program, together with its values. -/
namespace Go.Proofs.Ytbbjgcagkmlngab
open Go.RowKit

def runI (rows : List (List Int)) : List (Int × Int) → Option (List (List Int))
  | [] => some rows
  | s :: r => match mulI rows s.1 s.2 with
    | none => none
    | some v => runI (rows ++ [v]) r
def valsI (p : Pl) : Option (List (List Int)) :=
  if inB p.n 1 6 && (decide (p.s.length ≤ 40) && decide (p.o.length ≤ 6)) then
    match runI (units6 p.n.toNat) p.s with
    | none => none
    | some rows => if hasAllB p.o rows.length then some rows else none
  else none

def WvPost (p : Pl) (A1 A2 : Option Addr) (c1 c2 : Nat) (w : World) (e : Ending) (w' : World) : Prop :=
  Below w.heap.size w w' ∧ (match valsI p with
    | none => e = .returned (.tuple #[.agg #[.int .i64 0, .slice none 0 0, .slice none 0 0, .slice none 0 0], .bool false])
    | some rows => ∃ A c, e = .returned (.tuple #[.agg #[.int .i64 p.n, .slice A1 p.s.length c1, .slice A2 p.o.length c2, .slice A rows.length c], .bool true]) ∧
        w'.ownsRow w.heap.size 189 6 (.slice A rows.length c) rows.length (fl6 rows))
theorem wvPost_none {p : Pl} {A1 A2 : Option Addr} {c1 c2 : Nat} {w w' : World} (h : valsI p = none) (hb : Below w.heap.size w w') :
    WvPost p A1 A2 c1 c2 w (.returned (.tuple #[.agg #[.int .i64 0, .slice none 0 0, .slice none 0 0, .slice none 0 0], .bool false])) w' := by
  refine ⟨hb, ?_⟩
  rw [h]

theorem runI_len {rows rows' : List (List Int)} {s : List (Int × Int)} (h : runI rows s = some rows') : rows'.length = rows.length + s.length := by
  induction s generalizing rows with
  | nil => simp [runI] at h; subst h; rfl
  | cons st s ih =>
    simp only [runI] at h
    split at h
    · cases h
    · rename_i v hv
      have := ih h
      simp at this ⊢
      omega
theorem runI_append (rows : List (List Int)) (s t : List (Int × Int)) : runI rows (s ++ t) = (runI rows s).bind fun r => runI r t := by
  induction s generalizing rows with
  | nil => rfl
  | cons st s ih =>
    simp only [List.cons_append, runI]
    split
    · rfl
    · exact ih _
theorem runI_none {u rows : List (List Int)} {s : List (Int × Int)} {k : Nat} (hk : k < s.length) (h : runI u (s.take k) = some rows) (hm : mulI rows (s[k]).1 (s[k]).2 = none) : runI u s = none := by
  have e : s = s.take k ++ s[k] :: s.drop (k + 1) := by simp
  rw [e, runI_append, h]
  simp [runI, hm]
theorem runI_some {u rows : List (List Int)} {s : List (Int × Int)} {k : Nat} {v : List Int} (hk : k < s.length) (h : runI u (s.take k) = some rows) (hm : mulI rows (s[k]).1 (s[k]).2 = some v) : runI u (s.take (k + 1)) = some (rows ++ [v]) := by
  rw [List.take_succ_eq_append_getElem hk, runI_append, h]
  simp [runI, hm]
/-- All values have six exponents, none out of range. -/
def Rng6 (rows : List (List Int)) : Prop := ∀ r ∈ rows, r.length = 6 ∧ ∀ x ∈ r, 0 ≤ x ∧ x ≤ 1000000
theorem mulI_ok {rows : List (List Int)} {a b : Int} {v : List Int} (h : mulI rows a b = some v) (hr : Rng6 rows) : v.length = 6 ∧ ∀ x ∈ v, 0 ≤ x ∧ x ≤ 1000000 := by
  unfold mulI at h
  split at h
  · rename_i hc
    simp only [hasB, Bool.and_eq_true, decide_eq_true_eq] at hc
    obtain ⟨_, ⟨ha0, ha⟩, hb0, hb⟩ := hc
    have la : a.toNat < rows.length := by omega
    have lb : b.toNat < rows.length := by omega
    have h1 : rows.getD a.toNat [] = rows[a.toNat] := by simp [la]
    have h2 : rows.getD b.toNat [] = rows[b.toNat] := by simp [lb]
    rw [h1, h2] at h
    have r1 := hr _ (List.getElem_mem la)
    have r2 := hr _ (List.getElem_mem lb)
    simp only at h
    split at h
    · rename_i hall
      injection h with h
      subst h
      refine ⟨by simp [r1.1, r2.1], fun x hx => ?_⟩
      unfold allB at hall
      rw [List.all_eq_true] at hall
      have := hall x hx
      simpa [inB] using this
    · cases h
  · cases h
theorem rng6_app {rows : List (List Int)} {v : List Int} (hr : Rng6 rows) (hv : v.length = 6 ∧ ∀ x ∈ v, 0 ≤ x ∧ x ≤ 1000000) : Rng6 (rows ++ [v]) := by
  intro r h
  rcases List.mem_append.1 h with h | h
  · exact hr r h
  · rw [List.mem_singleton] at h; subst h; exact hv
theorem rng6_units (n : Nat) : Rng6 (units6 n) := by
  intro r hr
  simp only [units6, List.mem_map] at hr
  obtain ⟨i, _, rfl⟩ := hr
  refine ⟨by simp [unit6], fun x hx => ?_⟩
  unfold unit6 at hx
  rcases List.mem_or_eq_of_mem_set hx with h | h
  · have := List.eq_of_mem_replicate h; omega
  · omega
theorem Rng6.six {rows : List (List Int)} (h : Rng6 rows) : Six rows := fun r hr => (h r hr).1
theorem Rng6.rng {rows : List (List Int)} (h : Rng6 rows) : ∀ r ∈ rows, ∀ x ∈ r, 0 ≤ x ∧ x ≤ 1000000 := fun r hr => (h r hr).2

set_option maxRecDepth 100000 in
set_option maxHeartbeats 4000000 in
theorem withValues_any (B : Nat) (A1 A2 : Option Addr) (c1 c2 : Nat) (p : Pl) (w : World) (hB : B ≤ w.heap.size) (hls : p.s.length ≤ 2000000) (hlo : p.o.length ≤ 2000000)
    (hr : RdP w B A1 A2 p) :
    Calls Try.prog 88 #[.agg #[.int .i64 p.n, .slice A1 p.s.length c1, .slice A2 p.o.length c2]] w (WvPost p A1 A2 c1 c2 w) := by
  have H := Lib.hid hr
  clear hr
  obtain ⟨lls, hls1⟩ : ∃ x : Int, x = p.s.length := ⟨_, rfl⟩
  by_cases hg : p.n < 1 ∨ 6 < p.n ∨ 40 < p.s.length ∨ 6 < p.o.length
  · have e : valsI p = none := by
      unfold valsI
      rw [if_neg]
      simp only [inB, Bool.and_eq_true, decide_eq_true_eq]
      omega
    have E := Lib.hid e
    clear e hls1
    by_cases h1 : p.n < 1
    · clear hg
      go_enter Try.func88, Try.ntmps88
      go_wp2
      refine bodyPost_ret (v := .tuple #[.agg #[.int .i64 0, .slice none 0 0, .slice none 0 0, .slice none 0 0], .bool false]) (by simp [results, Try.results88, go_sem]) rfl (wvPost_none E.out ?_)
      exact ((Below.refl _ _).alloc (Nat.le_refl _) _).alloc (by simp) _
    by_cases h2 : 6 < p.n
    · clear hg
      go_enter Try.func88, Try.ntmps88
      go_wp2
      refine bodyPost_ret (v := .tuple #[.agg #[.int .i64 0, .slice none 0 0, .slice none 0 0, .slice none 0 0], .bool false]) (by simp [results, Try.results88, go_sem]) rfl (wvPost_none E.out ?_)
      exact ((Below.refl _ _).alloc (Nat.le_refl _) _).alloc (by simp) _
    by_cases h3 : 40 < p.s.length
    · have h3' : (40 : Int) < (p.s.length : Int) := by omega
      clear hg h3
      go_enter Try.func88, Try.ntmps88
      go_wp2
      refine bodyPost_ret (v := .tuple #[.agg #[.int .i64 0, .slice none 0 0, .slice none 0 0, .slice none 0 0], .bool false]) (by simp [results, Try.results88, go_sem]) rfl (wvPost_none E.out ?_)
      exact ((Below.refl _ _).alloc (Nat.le_refl _) _).alloc (by simp) _
    · have h4 : 6 < p.o.length := by omega
      have h3' : (p.s.length : Int) ≤ 40 := by omega
      have h4' : (6 : Int) < (p.o.length : Int) := by omega
      clear hg h3 h4
      go_enter Try.func88, Try.ntmps88
      go_wp2
      refine bodyPost_ret (v := .tuple #[.agg #[.int .i64 0, .slice none 0 0, .slice none 0 0, .slice none 0 0], .bool false]) (by simp [results, Try.results88, go_sem]) rfl (wvPost_none E.out ?_)
      exact ((Below.refl _ _).alloc (Nat.le_refl _) _).alloc (by simp) _
  · clear hls1
    obtain ⟨n1, n2, l1, l2⟩ : 1 ≤ p.n ∧ p.n ≤ 6 ∧ p.s.length ≤ 40 ∧ p.o.length ≤ 6 := by omega
    obtain ⟨N, hN⟩ : ∃ N : Nat, p.n = N := ⟨p.n.toNat, by omega⟩
    have ev : valsI p = (match runI (units6 N) p.s with
        | none => none
        | some rows => if hasAllB p.o rows.length then some rows else none) := by
      have : p.n.toNat = N := by omega
      unfold valsI
      rw [if_pos (by simp [inB]; omega), this]
    have EV := Lib.hid ev
    have i1 : (p.s.length : Int) ≤ 40 := by omega
    have i2 : (p.o.length : Int) ≤ 6 := by omega
    have HN := Lib.hid hN
    clear ev hg hN
    go_enter Try.func88, Try.ntmps88
    go_wp2
    generalize hw1 : World.alloc w _ = w1
    obtain ⟨x0, x1, x2, xs, xb⟩ := box3 hw1
    clear hw1
    generalize hw2 : World.alloc w1 _ = w2
    have hres : w2.heap[w1.heap.size]? = some (.cells #[.int .i64 0, .slice none 0 0, .slice none 0 0, .slice none 0 0] 106 (0, 0)) := by rw [← hw2]; exact heap_alloc_new w1 _
    have hb12 : Below w1.heap.size w1 w2 := by rw [← hw2]; exact (Below.refl _ _).alloc (Nat.le_refl _) _
    have hs2 : w2.heap.size = w1.heap.size + 1 := by rw [← hw2]; simp
    clear hw2
    rw [xs] at hres hb12 hs2
    have XB := Lib.hid (xb.trans (hb12.mono (by omega)))
    have y0 := (hb12.cell (p := ⟨w.heap.size, 0, none⟩) (by simp)).trans x0
    have y1 := (hb12.cell (p := ⟨w.heap.size, 1, none⟩) (by simp)).trans x1
    have y2 := (hb12.cell (p := ⟨w.heap.size, 2, none⟩) (by simp)).trans x2
    have HRES := Lib.hid hres
    have HS2 := Lib.hid hs2
    clear hres hs2 hb12 xs xb x0 x1 x2
    go_cut [4] (fun v wx => ∃ (g : Nat) (A : Option Addr) (c : Nat), v = .pointer (some ⟨g, 0, none⟩) ∧ w.heap.size + 2 ≤ g ∧ wx.heap[g]? = some (.cells #[.int .i64 p.n, .slice A1 p.s.length c1, .slice A2 p.o.length c2, .slice A N c] 106 (0, 0)) ∧
      wx.ownsRow (w.heap.size + 2) 189 6 (.slice A N c) N (fl6 (units6 N)) ∧ Below (w.heap.size + 2) w2 wx)
    case first =>
      have HS : (fun x : World => x.cell? ⟨w.heap.size, 0, none⟩ = some (.int .i64 p.n) ∧ x.cell? ⟨w.heap.size, 1, none⟩ = some (.slice A1 p.s.length c1) ∧ x.cell? ⟨w.heap.size, 2, none⟩ = some (.slice A2 p.o.length c2)) w2.drew := ⟨y0, y1, y2⟩
      have HSH := Lib.hid HS
      clear HS
      refine wp_region_T (fun x : World => x.cell? ⟨w.heap.size, 0, none⟩ = some (.int .i64 p.n) ∧ x.cell? ⟨w.heap.size, 1, none⟩ = some (.slice A1 p.s.length c1) ∧ x.cell? ⟨w.heap.size, 2, none⟩ = some (.slice A2 p.o.length c2)) [0, 1, 2, 4] [0, 2] (.lp 1 (.ls 0 (.ls 2 (.hv2 3 (.lp 4 (.hv 5 (.hv 6 (.done)))) 5 (.hv 3 (.lp 4 (.hv 6 (.done)))))))) (by kernel_rfl) (by kernel_rfl) ?_
      (repeat (refine T_lp rfl (fun K hK => ?_); go_simp; refine hK _ ?_; clear hK K))
      refine T_ls1 (v := .agg #[.int .i64 p.n, .slice A1 p.s.length c1, .slice A2 p.o.length c2]) rfl rfl HSH.out (fun x hx => (by obtain ⟨h1, h2, h3⟩ := hx; go_simp)) (fun K hK => ?_)
      (go_simp; refine hK _ ?_; clear hK K)
      refine T_ls1 (v := .int .i64 p.n) rfl rfl HSH.out (fun x hx => (by obtain ⟨h1, h2, h3⟩ := hx; go_simp)) (fun K hK => ?_)
      (go_simp; refine hK _ ?_; clear hK K)
      refine T_hv2 ?_ ?_
      · refine T_hvS rfl (fun K hK => ?_)
        go_simp
        go_at_call 134
        have hIV := inputValues_any N w2.drew (by have := HN.out; omega) (by have := HN.out; omega)
        rw [← HN.out] at hIV
        refine hIV.mono ?_
        rintro e w3 ⟨A3, c3, rfl, hown3, hbel3⟩
        clear hIV
        have hlt2 : w.heap.size < w2.drew.heap.size := by have := HS2.out; simp; omega
        have HS3 : (fun x : World => x.cell? ⟨w.heap.size, 0, none⟩ = some (.int .i64 p.n) ∧ x.cell? ⟨w.heap.size, 1, none⟩ = some (.slice A1 p.s.length c1) ∧ x.cell? ⟨w.heap.size, 2, none⟩ = some (.slice A2 p.o.length c2)) w3 :=
          ⟨(hbel3.cell (p := ⟨w.heap.size, 0, none⟩) hlt2).trans HSH.out.1, (hbel3.cell (p := ⟨w.heap.size, 1, none⟩) hlt2).trans HSH.out.2.1, (hbel3.cell (p := ⟨w.heap.size, 2, none⟩) hlt2).trans HSH.out.2.2⟩
        have HS3H := Lib.hid HS3
        clear HS3
        go_simp
        refine hK _ _ HS3H.out ?_
        clear hK K
        (repeat (refine T_lp rfl (fun K hK => ?_); go_simp; refine hK _ ?_; clear hK K))
        refine T_hvS rfl (fun K hK => ?_)
        go_simp
        refine hK _ _ ⟨cell_kept HS3H.out.1 _, cell_kept HS3H.out.2.1 _, cell_kept HS3H.out.2.2 _⟩ ?_
        clear hK K
        (refine T_hv rfl (by kernel_rfl) (fun K hK => ?_); go_simp; refine hK _ _ ?_; clear hK K)
        refine T_done ?_
        go_wp2
        go_meet
        case rel =>
          have hz : w2.drew.heap.size = w.heap.size + 2 := by have := HS2.out; simp; omega
          rw [hz] at hown3 hbel3
          exact ⟨w3.heap.size, A3, c3, rfl, by have := hbel3.size; rw [hz] at this; omega, heap_alloc_new w3 _, hown3.alloc _, ((Below.refl _ _).drew.trans hbel3).alloc (by have := hbel3.size; rw [hz] at this; omega) _⟩
      · refine T_hvS rfl (fun K hK => ?_)
        go_simp
        refine hK _ _ ⟨cell_kept HSH.out.1 _, cell_kept HSH.out.2.1 _, cell_kept HSH.out.2.2 _⟩ ?_
        clear hK K
        refine T_hvS rfl (fun K hK => ?_)
        go_simp
        go_at_call 134
        generalize hw3 : World.drew (World.alloc w2 _) = w3
        have hg3 : w3.heap[w2.heap.size]? = some (.cells #[.int .i64 0, .slice none 0 0, .slice none 0 0, .slice none 0 0] 106 (0, 0)) := by rw [← hw3]; exact heap_alloc_new w2 _
        have hb23 : Below w2.heap.size w2 w3 := by rw [← hw3]; exact ((Below.refl _ _).alloc (Nat.le_refl _) _).drew
        have hs3 : w3.heap.size = w2.heap.size + 1 := by rw [← hw3]; simp
        clear hw3
        have hIV := inputValues_any N w3 (by have := HN.out; omega) (by have := HN.out; omega)
        rw [← HN.out] at hIV
        refine hIV.mono ?_
        rintro e w4 ⟨A3, c3, rfl, hown3, hbel3⟩
        clear hIV
        have hlt2 : w.heap.size < w2.heap.size := by have := HS2.out; omega
        have hb24 : Below w2.heap.size w2 w4 := hb23.trans (hbel3.mono (by omega))
        have HS3 : (fun x : World => x.cell? ⟨w.heap.size, 0, none⟩ = some (.int .i64 p.n) ∧ x.cell? ⟨w.heap.size, 1, none⟩ = some (.slice A1 p.s.length c1) ∧ x.cell? ⟨w.heap.size, 2, none⟩ = some (.slice A2 p.o.length c2)) w4 :=
          ⟨(hb24.cell (p := ⟨w.heap.size, 0, none⟩) hlt2).trans HSH.out.1, (hb24.cell (p := ⟨w.heap.size, 1, none⟩) hlt2).trans HSH.out.2.1, (hb24.cell (p := ⟨w.heap.size, 2, none⟩) hlt2).trans HSH.out.2.2⟩
        have hg4 : w4.heap[w2.heap.size]? = some (.cells #[.int .i64 0, .slice none 0 0, .slice none 0 0, .slice none 0 0] 106 (0, 0)) := (hbel3.block _ (by omega)).trans hg3
        have HS3H := Lib.hid HS3
        have HG4 := Lib.hid hg4
        have HB24 := Lib.hid hb24
        have HS3S := Lib.hid hs3
        have HO3 := Lib.hid hown3
        have e0 : w4.cell? ⟨w2.heap.size, 0, none⟩ = some (.int .i64 0) := by rw [cell_of_row w4 _ 0 _ _ (0, 0) hg4]; rfl
        have e1 : w4.cell? ⟨w2.heap.size, 1, none⟩ = some (.slice none 0 0) := by rw [cell_of_row w4 _ 1 _ _ (0, 0) hg4]; rfl
        have e2 : w4.cell? ⟨w2.heap.size, 2, none⟩ = some (.slice none 0 0) := by rw [cell_of_row w4 _ 2 _ _ (0, 0) hg4]; rfl
        have e3 : w4.cell? ⟨w2.heap.size, 3, none⟩ = some (.slice none 0 0) := by rw [cell_of_row w4 _ 3 _ _ (0, 0) hg4]; rfl
        have z0 : w4.frozen? ⟨w2.heap.size, 0, none⟩ = false := frozen_of_row w4 _ 0 _ _ hg4
        have z1 : w4.frozen? ⟨w2.heap.size, 1, none⟩ = false := frozen_of_row w4 _ 1 _ _ hg4
        have z2 : w4.frozen? ⟨w2.heap.size, 2, none⟩ = false := frozen_of_row w4 _ 2 _ _ hg4
        have z3 : w4.frozen? ⟨w2.heap.size, 3, none⟩ = false := frozen_of_row w4 _ 3 _ _ hg4
        clear HS3 hg4 hb24 hs3 hg3 hb23 hown3 hbel3
        go_simp
        refine hK _ _ HS3H.out ?_
        clear hK K
        (repeat (refine T_lp rfl (fun K hK => ?_); go_simp; refine hK _ ?_; clear hK K))
        (refine T_hv rfl (by kernel_rfl) (fun K hK => ?_); go_simp; refine hK _ _ ?_; clear hK K)
        refine T_done ?_
        go_wp2
        go_meet
        case rel =>
          have hz : w2.heap.size = w.heap.size + 2 := HS2.out
          have ho := own_base HO3.out (show w.heap.size + 2 ≤ w3.heap.size by have := HS3S.out; omega)
          have h4 := set4 (a' := .int .i64 p.n) (b' := .slice A1 p.s.length c1) (c' := .slice A2 p.o.length c2) (d' := .slice A3 N c3) HG4.out ho (by decide) (HB24.out.mono (show w.heap.size + 2 ≤ w2.heap.size by omega)) (by omega)
          exact ⟨w2.heap.size, A3, c3, rfl, by omega, h4.1, h4.2.1, h4.2.2⟩
    case rest =>
      obtain ⟨g, A3, c3, rfl, hg2, hblk, hown, hbel⟩ := hcut
      have Y0 := Lib.hid y0
      have Y1 := Lib.hid y1
      have Y2 := Lib.hid y2
      have hl0 : w.heap.size < w.heap.size + 2 := by omega
      have v1 := (hbel.cell (p := ⟨w.heap.size, 1, none⟩) hl0).trans y1
      have BLK := Lib.hid hblk
      have OWN := Lib.hid hown
      have BEL := Lib.hid hbel
      clear hblk hown hbel y0 y1 y2
      go_wp2
      clear v1
      go_loopw [36] (fun i wr => ∃ (k : Nat) (rows : List (List Int)) (A : Option Addr) (c : Nat), k ≤ p.s.length ∧ i = .int .i64 k ∧ runI (units6 N) (p.s.take k) = some rows ∧ wr.heap[g]? = some (.cells #[.int .i64 p.n, .slice A1 p.s.length c1, .slice A2 p.o.length c2, .slice A rows.length c] 106 (0, 0)) ∧
        wr.ownsRow (w.heap.size + 2) 189 6 (.slice A rows.length c) rows.length (fl6 rows) ∧ Rng6 rows ∧ Below (w.heap.size + 2) w2 wr) (fun i _ => p.s.length - (intOf i).toNat)
      case atStart =>
        have hu : (units6 N).length = N := by simp [units6]
        exact ⟨0, units6 N, A3, c3, by omega, rfl, rfl, by rw [hu]; exact BLK.out, by rw [hu]; exact OWN.out, rng6_units N, BEL.out⟩
      case round =>
        obtain ⟨k, rows, A, c, hk, rfl, hrun, hblk, hown, hrng, hbel⟩ := hrel
        have hrl : rows.length = N + k := by
          have h := runI_len hrun
          simp [units6] at h
          omega
        have RUN := Lib.hid hrun
        have BLK := Lib.hid hblk
        have OWN := Lib.hid hown
        have RNG := Lib.hid hrng
        have BEL := Lib.hid hbel
        have HRL := Lib.hid hrl
        have hsz2 : w.heap.size + 2 ≤ wr.heap.size := by have := HS2.out; have := hbel.size; omega
        have hgl : g < wr.heap.size := (Array.getElem?_eq_some_iff.1 hblk).1
        have r0 : wr.heap[w.heap.size + 1]? = some (.cells #[.int .i64 0, .slice none 0 0, .slice none 0 0, .slice none 0 0] 106 (0, 0)) := (hbel.block _ (by omega)).trans HRES.out
        have RES0 := Lib.hid r0
        clear hrun hblk hown hrng hrl r0
        by_cases hlt : k < p.s.length
        · have hnlen : N ≤ 6 := by have := HN.out; omega
          obtain ⟨sb, off, rfl, hsb, hc1, hc2⟩ := (((H.out.1.below' (XB.out) hB)).below' hbel (by omega)).stp hlt
          clear hbel
          go_wp2_with fail
          go_at_call 135
          have hM := multiply_any (w.heap.size + 2) g 3 106 _ A c rows (p.s[k]).1 (p.s[k]).2 (wr.alloc (Obj.cells #[.int .i64 (p.s[k]).1, .int .i64 (p.s[k]).2] 114)) hg2
            ((Below.heap_alloc wr _ g hgl).trans BLK.out) (by decide) rfl (OWN.out.alloc _) RNG.out.six RNG.out.rng (by have := HRL.out; omega) (by simp; omega)
          refine hM.mono ?_
          rintro e w5 ⟨hb5, hpost⟩
          clear hM
          have hS1 : w.heap.size + 1 < w.heap.size + 2 := by omega
          have r5 : w5.heap[w.heap.size + 1]? = some (.cells #[.int .i64 0, .slice none 0 0, .slice none 0 0, .slice none 0 0] 106 (0, 0)) :=
            (hb5.block _ hS1).trans ((Below.heap_alloc wr _ _ (by omega)).trans RES0.out)
          cases hm : mulI rows (p.s[k]).1 (p.s[k]).2 with
          | none =>
            rw [hm] at hpost
            simp only at hpost
            subst hpost
            have ev : valsI p = none := by rw [EV.out, runI_none hlt RUN.out hm]
            have EV2 := Lib.hid ev
            have e0 : w5.cell? ⟨w.heap.size + 1, 0, none⟩ = some (.int .i64 0) := by rw [cell_of_row w5 _ 0 _ _ (0, 0) r5]; rfl
            have e1 : w5.cell? ⟨w.heap.size + 1, 1, none⟩ = some (.slice none 0 0) := by rw [cell_of_row w5 _ 1 _ _ (0, 0) r5]; rfl
            have e2 : w5.cell? ⟨w.heap.size + 1, 2, none⟩ = some (.slice none 0 0) := by rw [cell_of_row w5 _ 2 _ _ (0, 0) r5]; rfl
            have e3 : w5.cell? ⟨w.heap.size + 1, 3, none⟩ = some (.slice none 0 0) := by rw [cell_of_row w5 _ 3 _ _ (0, 0) r5]; rfl
            have z0 : w5.frozen? ⟨w.heap.size + 1, 0, none⟩ = false := frozen_of_row w5 _ 0 _ _ r5
            have z1 : w5.frozen? ⟨w.heap.size + 1, 1, none⟩ = false := frozen_of_row w5 _ 1 _ _ r5
            have z2 : w5.frozen? ⟨w.heap.size + 1, 2, none⟩ = false := frozen_of_row w5 _ 2 _ _ r5
            have z3 : w5.frozen? ⟨w.heap.size + 1, 3, none⟩ = false := frozen_of_row w5 _ 3 _ _ r5
            have HB5 := Lib.hid hb5
            clear ev hm r5 hb5
            go_wp2
            refine bodyPost_ret (v := .tuple #[.agg #[.int .i64 0, .slice none 0 0, .slice none 0 0, .slice none 0 0], .bool false]) (by simp [results, Try.results88, go_sem, e0, e1, e2, e3]) rfl (wvPost_none EV2.out ?_)
            have hb := XB.out.trans ((BEL.out.mono (show w.heap.size ≤ w.heap.size + 2 by omega)).trans (((Below.refl _ _).alloc (by omega) _).trans (HB5.out.mono (show w.heap.size ≤ w.heap.size + 2 by omega))))
            exact (((hb.setCell (by simp) _).setCell (by simp) _).setCell (by simp) _).setCell (by simp) _
          | some v =>
            rw [hm] at hpost
            simp only at hpost
            obtain ⟨rfl, A5, c5, hblk5, hown5⟩ := hpost
            have hv := mulI_ok hm RNG.out
            have HM := Lib.hid hm
            have HV := Lib.hid hv
            have HB5 := Lib.hid hb5
            have BLK5 := Lib.hid hblk5
            have OWN5 := Lib.hid hown5
            clear hm hv hb5 hblk5 hown5 r5
            go_wp2
            go_roundw
            case rel =>
              refine ⟨k + 1, rows ++ [v], A5, c5, by omega, by go_num, runI_some hlt RUN.out HM.out, ?_, ?_, rng6_app RNG.out HV.out, (BEL.out.alloc hsz2 _).trans HB5.out⟩
              · have := BLK5.out
                rw [this]
                simp
              · have := OWN5.out
                simpa using this
            case measure => simp [intOf]; omega
        · have hk' : k = p.s.length := by omega
          have hrun2 : runI (units6 N) p.s = some rows := by
            have := RUN.out
            rwa [List.take_of_length_le (by omega)] at this
          have RUN2 := Lib.hid hrun2
          have hcell3 : wr.cell? ⟨g, 3, none⟩ = some (.slice A rows.length c) := by rw [cell_of_row wr g 3 _ _ (0, 0) BLK.out]; rfl
          have v2 := (hbel.cell (p := ⟨w.heap.size, 2, none⟩) hl0).trans Y2.out
          have e0 : wr.cell? ⟨w.heap.size + 1, 0, none⟩ = some (.int .i64 0) := by rw [cell_of_row wr _ 0 _ _ (0, 0) RES0.out]; rfl
          have e1 : wr.cell? ⟨w.heap.size + 1, 1, none⟩ = some (.slice none 0 0) := by rw [cell_of_row wr _ 1 _ _ (0, 0) RES0.out]; rfl
          have e2 : wr.cell? ⟨w.heap.size + 1, 2, none⟩ = some (.slice none 0 0) := by rw [cell_of_row wr _ 2 _ _ (0, 0) RES0.out]; rfl
          have e3 : wr.cell? ⟨w.heap.size + 1, 3, none⟩ = some (.slice none 0 0) := by rw [cell_of_row wr _ 3 _ _ (0, 0) RES0.out]; rfl
          have z0 : wr.frozen? ⟨w.heap.size + 1, 0, none⟩ = false := frozen_of_row wr _ 0 _ _ RES0.out
          have z1 : wr.frozen? ⟨w.heap.size + 1, 1, none⟩ = false := frozen_of_row wr _ 1 _ _ RES0.out
          have z2 : wr.frozen? ⟨w.heap.size + 1, 2, none⟩ = false := frozen_of_row wr _ 2 _ _ RES0.out
          have z3 : wr.frozen? ⟨w.heap.size + 1, 3, none⟩ = false := frozen_of_row wr _ 3 _ _ RES0.out
          have hro := ((H.out.2.below' XB.out hB).below' hbel (show B ≤ w.heap.size + 2 by omega))
          have HRO := Lib.hid hro
          have hb := XB.out.trans (BEL.out.mono (show w.heap.size ≤ w.heap.size + 2 by omega))
          have HB := Lib.hid hb
          clear hrun2 hk' hbel hro hb
          obtain ⟨ha, hha⟩ : ∃ x, hasAllB p.o rows.length = x := ⟨_, rfl⟩
          cases ha with
          | false =>
            have ev : valsI p = none := by rw [EV.out, RUN2.out]; simp [hha]
            have EV2 := Lib.hid ev
            clear ev
            go_wp2_with (go_at_call 136; refine (hasAll_any B g 3 rows.length c A A2 c2 p.o _ hcell3 (by omega) HRO.out).mono ?_; rintro e w' ⟨rfl, rfl⟩)
            refine bodyPost_ret (v := .tuple #[.agg #[.int .i64 0, .slice none 0 0, .slice none 0 0, .slice none 0 0], .bool false]) (by simp [results, Try.results88, go_sem, e0, e1, e2, e3]) rfl (wvPost_none EV2.out ?_)
            exact (((HB.out.setCell (by simp) _).setCell (by simp) _).setCell (by simp) _).setCell (by simp) _
          | true =>
            have ev : valsI p = some rows := by rw [EV.out, RUN2.out]; simp [hha]
            have EV2 := Lib.hid ev
            have hg0 : wr.cell? ⟨g, 0, none⟩ = some (.int .i64 p.n) := by rw [cell_of_row wr g 0 _ _ (0, 0) BLK.out]; rfl
            have hg1 : wr.cell? ⟨g, 1, none⟩ = some (.slice A1 p.s.length c1) := by rw [cell_of_row wr g 1 _ _ (0, 0) BLK.out]; rfl
            have hg22 : wr.cell? ⟨g, 2, none⟩ = some (.slice A2 p.o.length c2) := by rw [cell_of_row wr g 2 _ _ (0, 0) BLK.out]; rfl
            clear ev
            go_wp2_with (go_at_call 136; refine (hasAll_any B g 3 rows.length c A A2 c2 p.o _ hcell3 (by omega) HRO.out).mono ?_; rintro e w' ⟨rfl, rfl⟩)
            have h4 := set4 (a' := .int .i64 p.n) (b' := .slice A1 p.s.length c1) (c' := .slice A2 p.o.length c2) (d' := .slice A rows.length c) RES0.out (own_base OWN.out (show w.heap.size ≤ w.heap.size + 2 by omega)) (by decide) HB.out (by omega)
            refine bodyPost_ret (v := .tuple #[.agg #[.int .i64 p.n, .slice A1 p.s.length c1, .slice A2 p.o.length c2, .slice A rows.length c], .bool true]) (by simp [results, Try.results88, go_sem, e0, e1, e2, e3]) rfl ⟨h4.2.2, ?_⟩
            rw [EV2.out]
            exact ⟨A, c, rfl, h4.2.1⟩
end Go.Proofs.Ytbbjgcagkmlngab
/- The program's values of a plan are the model's exponents, and both take the same plans as valid. -/
namespace Go.Proofs.Ytbbjgcagkmlngab
open Go.RowKit

def pad (n : Nat) (r : List Int) : List Int := r ++ List.replicate (6 - n) (0 : Int)

theorem units6_pad {n : Nat} (h : n ≤ 6) : units6 n = (units n).map (pad n) := by
  have hn : n = 0 ∨ n = 1 ∨ n = 2 ∨ n = 3 ∨ n = 4 ∨ n = 5 ∨ n = 6 := by omega
  rcases hn with rfl | rfl | rfl | rfl | rfl | rfl | rfl <;> decide

theorem zip_pad {n : Nat} {a b : List Int} (ha : a.length = n) (hb : b.length = n) : List.zipWith (· + ·) (pad n a) (pad n b) = pad n (List.zipWith (· + ·) a b) := by
  unfold pad
  rw [List.zipWith_append (by omega)]
  simp
theorem allB_pad (n : Nat) (r : List Int) : allB (pad n r) 0 1000000 = allB r 0 1000000 := by
  unfold allB pad
  rw [List.all_append]
  have : (List.replicate (6 - n) (0 : Int)).all (fun n => inB n 0 1000000) = true := by
    rw [List.all_eq_true]
    intro x hx
    have := List.eq_of_mem_replicate hx
    subst this
    rfl
  rw [this, Bool.and_true]
theorem sum_le : ∀ (a b : List Int), (∀ x ∈ a, 0 ≤ x) → (∀ x ∈ b, 0 ≤ x) → allB (List.zipWith (· + ·) a b) 0 1000000 = allB (sumL a b) 0 1000000 ∧ (allB (sumL a b) 0 1000000 = true → List.zipWith (· + ·) a b = sumL a b)
  | [], b, _, _ => by simp [sumL]
  | a :: ar, [], _, _ => by simp [sumL]
  | a :: ar, b :: br, ha, hb => by
    obtain ⟨h1, h2⟩ := sum_le ar br (fun x hx => ha x (by simp [hx])) (fun x hx => hb x (by simp [hx]))
    have h3 := ha a (by simp)
    have h4 := hb b (by simp)
    have e1 : List.zipWith (· + ·) (a :: ar) (b :: br) = (a + b) :: List.zipWith (· + ·) ar br := rfl
    have e2 : sumL (a :: ar) (b :: br) = leastI (a + b) 1000001 :: sumL ar br := rfl
    have e3 : ∀ (x : Int) (l : List Int), allB (x :: l) 0 1000000 = (inB x 0 1000000 && allB l 0 1000000) := fun x l => rfl
    rw [e1, e2, e3, e3, h1]
    have e4 : inB (a + b) 0 1000000 = inB (leastI (a + b) 1000001) 0 1000000 := by
      by_cases hc : a + b < 1000001
      · simp [leastI, hc]
      · have e5 : leastI (a + b) 1000001 = 1000001 := by simp [leastI, hc]
        rw [e5, Bool.eq_iff_iff]
        simp only [inB, Bool.and_eq_true, decide_eq_true_eq]
        omega
    refine ⟨by rw [e4], fun h => ?_⟩
    rw [Bool.and_eq_true] at h
    rw [h2 h.2]
    have : leastI (a + b) 1000001 = a + b := by
      have h5 := h.1
      by_cases hc : a + b < 1000001
      · simp [leastI, hc]
      · have e5 : leastI (a + b) 1000001 = 1000001 := by simp [leastI, hc]
        rw [e5] at h5
        simp [inB] at h5
    rw [this]

theorem mulI_pad {n : Nat} {E : List (List Int)} (hE : OkR n E) (k : Nat) (hl : E.length = n + k) (a b : Int) :
    mulI (E.map (pad n)) a b = if stepOk n k (a, b) && allB (sumL (E.getD a.toNat []) (E.getD b.toNat [])) 0 1000000 then some (pad n (sumL (E.getD a.toNat []) (E.getD b.toNat []))) else none := by
  unfold mulI
  rw [List.length_map, hl]
  by_cases hs : stepOk n k (a, b) = true
  · have hc : (decide (a ≤ b) && (hasB a (n + k) && hasB b (n + k))) = true := by
      simp only [stepOk, inB, hasB, Bool.and_eq_true, decide_eq_true_eq] at hs ⊢
      omega
    have hs2 := hs
    simp only [stepOk, inB, Bool.and_eq_true, decide_eq_true_eq] at hs2
    have la : a.toNat < E.length := by omega
    have lb : b.toNat < E.length := by omega
    have ea : (E.map (pad n)).getD a.toNat [] = pad n (E.getD a.toNat []) := by simp [la]
    have eb : (E.map (pad n)).getD b.toNat [] = pad n (E.getD b.toNat []) := by simp [lb]
    obtain ⟨ra, ra2⟩ := getD_ok hE la
    obtain ⟨rb, rb2⟩ := getD_ok hE lb
    rw [if_pos hc, hs, Bool.true_and, ea, eb]
    simp only [zip_pad ra rb, allB_pad]
    obtain ⟨h1, h2⟩ := sum_le (E.getD a.toNat []) (E.getD b.toNat []) (fun x hx => (ra2 x hx).1) (fun x hx => (rb2 x hx).1)
    rw [h1]
    by_cases h3 : allB (sumL (E.getD a.toNat []) (E.getD b.toNat [])) 0 1000000 = true
    · rw [if_pos h3, if_pos h3, h2 h3]
    · rw [if_neg h3, if_neg h3]
  · have hc : ¬ (decide (a ≤ b) && (hasB a (n + k) && hasB b (n + k))) = true := by
      simp only [stepOk, inB, hasB, Bool.and_eq_true, decide_eq_true_eq] at hs ⊢
      omega
    rw [if_neg hc]
    simp only [Bool.not_eq_true] at hs
    rw [hs]
    simp

theorem units_expsB (n : Nat) : expsB (units n) = true := by
  unfold expsB
  rw [List.all_eq_true]
  intro r hr
  have h := (units_ok n r hr)
  simp only [units, List.mem_map, List.mem_range] at hr
  obtain ⟨i, hi, rfl⟩ := hr
  unfold allB
  rw [List.all_eq_true]
  intro x hx
  rcases List.mem_or_eq_of_mem_set hx with h | h
  · have := List.eq_of_mem_replicate h; subst this; rfl
  · subst h; rfl

theorem okPre_take {n : Nat} {s : List (Int × Int)} {k : Nat} (hk : k ≤ s.length) (h : okPre n s k = true) : OkS n (s.take k) := by
  intro i hi
  have hi' : i < k := by simp at hi; omega
  unfold okPre at h
  rw [List.all_eq_true] at h
  have := h i (by simpa using hi')
  have hil : i < s.length := by omega
  simp [hil, stepOk, inB] at this
  rw [List.getElem_take]
  omega

theorem runI_eq {n : Nat} (hn : n ≤ 6) (s : List (Int × Int)) : ∀ k, k ≤ s.length →
    runI (units6 n) (s.take k) = if okPre n s k && expsB (exps n (s.take k)) then some ((exps n (s.take k)).map (pad n)) else none := by
  intro k
  induction k with
  | zero =>
    intro _
    have h1 : okPre n s 0 = true := rfl
    have h2 : exps n (s.take 0) = units n := rfl
    rw [h1, h2, units_expsB]
    simp [runI, units6_pad hn]
  | succ k ih =>
    intro hk
    have hlt : k < s.length := by omega
    have ih := ih (by omega)
    rw [List.take_succ_eq_append_getElem hlt, runI_append, ih]
    rw [← List.take_succ_eq_append_getElem hlt, exps_take n hlt, okPre_succ _ _ _ hlt]
    have eB : expsB (expStep (exps n (s.take k)) s[k]) = (expsB (exps n (s.take k)) && allB (sumL ((exps n (s.take k)).getD (s[k]).1.toNat []) ((exps n (s.take k)).getD (s[k]).2.toNat [])) 0 1000000) := by
      unfold expsB expStep
      rw [List.all_append]
      simp
    rw [eB]
    by_cases hp : okPre n s k = true
    · by_cases hq : expsB (exps n (s.take k)) = true
      · rw [hp, hq]
        simp only [Bool.and_self, if_true, Option.bind_some, Bool.true_and]
        have hokr : OkR n (exps n (s.take k)) := by
          have h := exps_ok (okPre_take (by omega) hp) (s.take k).length (Nat.le_refl _)
          rwa [List.take_of_length_le (Nat.le_refl _)] at h
        have hl : (exps n (s.take k)).length = n + k := by rw [exps_length]; simp; omega
        simp only [runI]
        rw [mulI_pad hokr k hl]
        have es : stepOk n k (s[k].1, s[k].2) = stepOk n k s[k] := rfl
        rw [es]
        split <;> rename_i hx
        · split at hx
          · cases hx
          · rename_i hc
            rw [if_neg hc]
        · split at hx
          · rename_i hc
            rw [if_pos hc]
            injection hx with hx
            subst hx
            simp [expStep]
          · cases hx
      · simp only [Bool.not_eq_true] at hq
        rw [hq]
        simp
    · simp only [Bool.not_eq_true] at hp
      rw [hp]
      simp

theorem hasAllB_eq (l : List Int) (m : Nat) : hasAllB l m = allB l 0 ((m : Int) - 1) := by
  unfold hasAllB allB
  congr 1
  funext x
  rw [Bool.eq_iff_iff]
  simp only [hasB, inB, Bool.and_eq_true, decide_eq_true_eq]
  omega

theorem valsI_eq (p : Pl) : valsI p = if good p then some ((exps p.n.toNat p.s).map (pad p.n.toNat)) else none := by
  unfold valsI good
  by_cases h1 : inB p.n 1 6 = true
  · by_cases h2 : p.s.length ≤ 40
    · by_cases h3 : p.o.length ≤ 6
      · obtain ⟨n1, n2⟩ : 1 ≤ p.n ∧ p.n ≤ 6 := by simpa [inB] using h1
        obtain ⟨N, hN⟩ : ∃ N : Nat, p.n = N := ⟨p.n.toNat, by omega⟩
        have hn : p.n.toNat = N := by omega
        have hr := runI_eq (n := N) (by omega) p.s p.s.length (Nat.le_refl _)
        rw [List.take_of_length_le (Nat.le_refl _)] at hr
        rw [hn, hr, h1]
        simp only [h2, h3, decide_true, Bool.and_self, Bool.true_and, if_true]
        rw [hN]
        by_cases h4 : (okPre N p.s p.s.length && expsB (exps N p.s)) = true
        · rw [if_pos h4]
          simp only [List.length_map]
          rw [exps_length, hasAllB_eq]
          have e : ((N + p.s.length : Nat) : Int) - 1 = (N : Int) + p.s.length - 1 := by omega
          rw [e]
          rw [Bool.and_eq_true] at h4
          rw [h4.1, h4.2, Bool.true_and, Bool.true_and]
        · rw [if_neg h4]
          simp only
          rw [← Bool.and_assoc]
          simp only [Bool.not_eq_true] at h4
          rw [h4]
          simp
      · simp [h3]
    · simp [h2]
  · simp only [Bool.not_eq_true] at h1
    simp [h1]
end Go.Proofs.Ytbbjgcagkmlngab
/- The laws' own helpers: sizes, copies, comparison of plans. -/
namespace Go.Proofs.Ytbbjgcagkmlngab
open Go.RowKit

def szR (left : Int) (n : Nat) : Int := if left - n < 0 then -1 else left - n

set_option maxHeartbeats 400000 in
theorem szStepS_any (A : Option Addr) (n c : Nat) (left : Int) (w : World) (h0 : -1 ≤ left) (h1 : left ≤ 1048576) (hn : n ≤ 9223372036854775807) :
    Calls Try.prog 83 #[.slice A n c, .int .i64 left] w fun e w' => e = .returned (.int .i64 (szR left n)) ∧ w = w' := by
  by_cases h : left - n < 0
  · go_enter Try.func83, Try.ntmps83
    go_wp2
    go_ret
    exact ⟨ret_int (by simp [szR, h]), rfl⟩
  · go_enter Try.func83, Try.ntmps83
    go_wp2
    go_ret
    exact ⟨ret_int (by simp [szR]; omega), rfl⟩
set_option maxHeartbeats 400000 in
theorem szIntS_any (A : Option Addr) (n c : Nat) (left : Int) (w : World) (h0 : -1 ≤ left) (h1 : left ≤ 1048576) (hn : n ≤ 9223372036854775807) :
    Calls Try.prog 67 #[.slice A n c, .int .i64 left] w fun e w' => e = .returned (.int .i64 (szR left n)) ∧ w = w' := by
  by_cases h : left - n < 0
  · go_enter Try.func67, Try.ntmps67
    go_wp2
    go_ret
    exact ⟨ret_int (by simp [szR, h]), rfl⟩
  · go_enter Try.func67, Try.ntmps67
    go_wp2
    go_ret
    exact ⟨ret_int (by simp [szR]; omega), rfl⟩

def szPl (p : Pl) (left : Int) : Int := if szR left p.s.length < 0 then -1 else szR (szR left p.s.length) p.o.length
theorem szR_bd {left : Int} {n : Nat} (h0 : -1 ≤ left) (h1 : left ≤ 1048576) : -1 ≤ szR left n ∧ szR left n ≤ 1048576 := by
  unfold szR; split <;> omega

set_option maxRecDepth 100000 in
set_option maxHeartbeats 1000000 in
theorem szPlan_any (A1 A2 : Option Addr) (c1 c2 : Nat) (p : Pl) (left : Int) (w : World) (h0 : -1 ≤ left) (h1 : left ≤ 1048576) (hn1 : p.s.length ≤ 9223372036854775807) (hn2 : p.o.length ≤ 9223372036854775807) :
    Calls Try.prog 22 #[.agg #[.int .i64 p.n, .slice A1 p.s.length c1, .slice A2 p.o.length c2], .int .i64 left] w fun e w' => e = .returned (.int .i64 (szPl p left)) ∧ Below w.heap.size w w' := by
  obtain ⟨b1, b2⟩ := szR_bd (n := p.s.length) h0 h1
  obtain ⟨x, hx⟩ : ∃ x, szR left p.s.length = x := ⟨_, rfl⟩
  rw [hx] at b1 b2
  obtain ⟨b3, b4⟩ := szR_bd (n := p.o.length) b1 b2
  obtain ⟨y, hy⟩ : ∃ y, szR x p.o.length = y := ⟨_, rfl⟩
  rw [hy] at b3 b4
  have HX := Lib.hid hx
  have HY := Lib.hid hy
  have hs1 := fun W => szStepS_any A1 p.s.length c1 left W h0 h1 hn1
  have hs2 := fun W => szIntS_any A2 p.o.length c2 x W b1 b2 hn2
  rw [hx] at hs1
  rw [hy] at hs2
  have HS1 := Lib.hid hs1
  have HS2 := Lib.hid hs2
  clear hx hy hs1 hs2
  by_cases h : x < 0
  · go_enter Try.func22, Try.ntmps22
    go_wp2_with (first | (go_at_call 83; refine (HS1.out _).mono ?_; rintro e w' ⟨rfl, rfl⟩) | (go_at_call 67; refine (HS2.out _).mono ?_; rintro e w' ⟨rfl, rfl⟩))
    go_ret
    exact ⟨ret_int (by simp [szPl, HX.out, h]), (Below.refl _ _).alloc (Nat.le_refl _) _⟩
  · by_cases h2 : y < 0
    · have hy1 : y = -1 := by omega
      have HY1 := Lib.hid hy1
      clear hy1
      go_enter Try.func22, Try.ntmps22
      go_wp2_with (first | (go_at_call 83; refine (HS1.out _).mono ?_; rintro e w' ⟨rfl, rfl⟩) | (go_at_call 67; refine (HS2.out _).mono ?_; rintro e w' ⟨rfl, rfl⟩))
      go_ret
      exact ⟨ret_int (by unfold szPl; rw [HX.out, HY.out, if_neg (by omega), HY1.out]), (Below.refl _ _).alloc (Nat.le_refl _) _⟩
    · go_enter Try.func22, Try.ntmps22
      go_wp2_with (first | (go_at_call 83; refine (HS1.out _).mono ?_; rintro e w' ⟨rfl, rfl⟩) | (go_at_call 67; refine (HS2.out _).mono ?_; rintro e w' ⟨rfl, rfl⟩))
      go_ret
      exact ⟨ret_int (by unfold szPl; rw [HX.out, HY.out, if_neg (by omega)]), (Below.refl _ _).alloc (Nat.le_refl _) _⟩
theorem szPl_ok {p : Pl} (h : ¬ szPl p 1048576 < 0) : p.s.length ≤ 1048576 ∧ p.o.length ≤ 1048576 := by
  unfold szPl szR at h
  by_cases h1 : (1048576 : Int) - p.s.length < 0
  · simp [h1] at h
  · simp only [h1, if_false] at h
    by_cases h2 : (1048576 : Int) - p.s.length - p.o.length < 0
    · simp [h2] at h
    · omega

theorem toStep_any (a b : Int) (w : World) : Calls Try.prog 133 #[.agg #[.int .i64 a, .int .i64 b]] w fun e w' => e = .returned (.agg #[.int .i64 a, .int .i64 b]) ∧ Below w.heap.size w w' := by
  go_enter Try.func133, Try.ntmps133
  go_wp2
  refine bodyPost_ret (v := .agg #[.int .i64 a, .int .i64 b]) (by simp [results, Try.results133, go_sem]) rfl ⟨rfl, ?_⟩
  exact (((Below.refl _ _).alloc (Nat.le_refl _) _).alloc (by simp) _).alloc (by simp; omega) _

/-- An own slice of steps. -/
def OwS (w : World) (B : Nat) (v : Value) (s : List (Int × Int)) : Prop := w.ownsRow B 114 2 v s.length (fl s)
def OwP (w : World) (B : Nat) (A1 A2 : Option Addr) (c1 c2 : Nat) (p : Pl) : Prop := OwS w B (.slice A1 p.s.length c1) p.s ∧ OwI w B (.slice A2 p.o.length c2) p.o
theorem OwP.rd {w : World} {B : Nat} {A1 A2 : Option Addr} {c1 c2 : Nat} {p : Pl} (h : OwP w B A1 A2 c1 c2 p) : RdP w w.heap.size A1 A2 p := ⟨Rd.of_own h.1, Rd.of_own h.2⟩
theorem OwP.below {w w' : World} {B : Nat} {A1 A2 : Option Addr} {c1 c2 : Nat} {p : Pl} (h : OwP w B A1 A2 c1 c2 p) (hb : Below w.heap.size w w') : OwP w' B A1 A2 c1 c2 p := ⟨own_below h.1 hb, own_below h.2 hb⟩
theorem OwP.base {w : World} {B B' : Nat} {A1 A2 : Option Addr} {c1 c2 : Nat} {p : Pl} (h : OwP w B A1 A2 c1 c2 p) (hB : B' ≤ B) : OwP w B' A1 A2 c1 c2 p := ⟨own_base h.1 hB, own_base h.2 hB⟩

theorem fill_int (l : List Int) (k : Nat) (hk : k < l.length) : ((l.take k).map I ++ List.replicate (l.length - k) (I 0)).set k (I l[k]) = (l.take (k + 1)).map I ++ List.replicate (l.length - (k + 1)) (I 0) := by
  have hl : ((l.take k).map I).length = k := by simp; omega
  rw [List.set_append_right _ _ (by omega), hl, Nat.sub_self, show l.length - k = (l.length - (k + 1)) + 1 from by omega, List.replicate_succ, List.set_cons_zero, List.take_succ_eq_append_getElem hk, List.map_append]
  simp
theorem fill_step (s : List (Int × Int)) (k : Nat) (hk : k < s.length) : ((fl (s.take k) ++ List.replicate ((s.length - k) * 2) (I 0)).set (k * 2) (I s[k].1)).set (k * 2 + 1) (I s[k].2) = fl (s.take (k + 1)) ++ List.replicate ((s.length - (k + 1)) * 2) (I 0) := by
  have hl : (fl (s.take k)).length = k * 2 := by rw [fl_length]; simp; omega
  rw [List.set_append_right _ _ (by omega), show (s.length - k) * 2 = (s.length - (k + 1)) * 2 + 1 + 1 from by omega, List.replicate_succ, List.replicate_succ, hl, Nat.sub_self, List.set_cons_zero,
    List.set_append_right _ _ (by omega), hl, show k * 2 + 1 - k * 2 = 1 from by omega, List.set_cons_succ, List.set_cons_zero, List.take_succ_eq_append_getElem hk, fl_snoc]
  simp
theorem rep_at {l : List Value} {z : Value} {m j : Nat} (h1 : l.length ≤ j) (h2 : j < l.length + m) : (l ++ List.replicate m z)[j]? = some z := by
  rw [List.getElem?_append_right h1, List.getElem?_replicate, if_pos (by omega)]
theorem made1 (z : Value) (n : Nat) : (madeCells #[z] n).toList = List.replicate n z := toList_madeCells_one z n
theorem made2 (v : Value) (n : Nat) : (madeCells #[v, v] (n * 2)).toList = List.replicate (n * 2) v := by
  apply List.ext_getElem?
  intro j
  by_cases hj : j < n * 2
  · have h6 : j % 2 = 0 ∨ j % 2 = 1 := by omega
    rcases h6 with h | h <;> simp [madeCells, hj, h]
  · simp [madeCells, hj]

set_option maxRecDepth 100000 in
set_option maxHeartbeats 1000000 in
theorem toIntS_any (B : Nat) (A : Option Addr) (c : Nat) (l : List Int) (w : World) (hm : l.length ≤ 1048576) (hB : B ≤ w.heap.size) (hr : Rd w B 1 A l.length (l.map I)) :
    Calls Try.prog 73 #[.slice A l.length c] w fun e w' => ∃ A' c', e = .returned (.slice A' l.length c') ∧ OwI w' w.heap.size (.slice A' l.length c') l ∧ Below w.heap.size w w' := by
  have H := Lib.hid hr
  clear hr
  have hmk := run_make_row' (P := Try.prog) 22 3 (.int .i64 0) 8 Try.underlying22 info_int rfl .i64 .i64 l.length (by omega) (by omega)
  have hmade : (w.alloc (.cells (madeCells #[.int .i64 0] l.length) 3)).ownsRow w.heap.size 3 1 (.slice (some ⟨w.heap.size, 0, none⟩) l.length l.length) l.length ((l.take 0).map I ++ List.replicate (l.length - 0) (I 0)) := by
    have h := World.ownsRow_lit (base := w.heap.size) (e := 3) (size := 1) w (madeCells #[Value.int .i64 0] l.length) l.length (Nat.le_refl _) (by unfold maxLen; omega) (by simp [size_madeCells])
    rw [made1] at h
    simpa using h
  have HM := Lib.hid hmade
  clear hmade
  go_enter Try.func73, Try.ntmps73
  go_wp2
  clear hmk
  go_loopw [4] (fun i wr => ∃ k : Nat, k ≤ l.length ∧ i = .int .i64 k ∧ wr.ownsRow w.heap.size 3 1 (.slice (some ⟨w.heap.size, 0, none⟩) l.length l.length) l.length ((l.take k).map I ++ List.replicate (l.length - k) (I 0)) ∧ Below w.heap.size w wr) (fun i _ => l.length - (intOf i).toNat)
  case atStart => exact ⟨0, by omega, rfl, HM.out, (Below.refl _ _).alloc (Nat.le_refl _) _⟩
  case round =>
    obtain ⟨k, hk, rfl, hown, hbel⟩ := hrel
    have OWN := Lib.hid hown
    have BEL := Lib.hid hbel
    by_cases hlt : k < l.length
    · obtain ⟨b, off, rfl, hb, hcell⟩ := (H.out.below' hbel (by omega)).int hlt
      have hc : wr.cell? ⟨w.heap.size, k, none⟩ = some (I 0) := by
        rw [hown.cellAt _ (by omega)]
        exact rep_at (by simp; omega) (by simp; omega)
      have hf : wr.frozen? ⟨w.heap.size, k, none⟩ = false := hown.frozenAt _
      clear hown hbel
      go_wp2
      go_roundw
      case rel =>
        refine ⟨k + 1, by omega, by go_num, ?_, BEL.out.setCell (Nat.le_refl _) _⟩
        have h := (OWN.out.stored k (I l[k])).1
        rw [fill_int l k hlt] at h
        exact h
      case measure => simp [intOf]; omega
    · have hk' : k = l.length := by omega
      subst hk'
      clear hown hbel
      go_wp2
      go_ret
      refine ⟨_, _, rfl, ?_, BEL.out⟩
      have h := OWN.out
      rw [List.take_of_length_le (Nat.le_refl _)] at h
      simpa [OwI] using h

set_option maxRecDepth 100000 in
set_option maxHeartbeats 1000000 in
theorem toStepS_any (B : Nat) (A : Option Addr) (c : Nat) (s : List (Int × Int)) (w : World) (hm : s.length ≤ 1048576) (hB : B ≤ w.heap.size) (hr : Rd w B 2 A s.length (fl s)) :
    Calls Try.prog 87 #[.slice A s.length c] w fun e w' => ∃ A' c', e = .returned (.slice A' s.length c') ∧ OwS w' w.heap.size (.slice A' s.length c') s ∧ Below w.heap.size w w' := by
  have H := Lib.hid hr
  clear hr
  obtain ⟨i0, hi, hz0, hz1, hz2⟩ := info_parts info_step
  have hmk : ∀ W : World, (Instr.makeSlice 42 (.int .i64 (s.length : Int)) (.int .i64 (s.length : Int))).run Try.prog W = .ok (.slice (some ⟨W.heap.size, 0, none⟩) s.length s.length) (W.alloc (.cells (madeCells #[.int .i64 0, .int .i64 0] (s.length * 2)) 114)) := fun W => by
    have hr := run_make (P := Try.prog) W 42 114 i0 _ Try.underlying42 hi hz0 .i64 .i64 s.length s.length (by omega) (Int.le_refl _) (by rw [hz2]; omega) (by omega)
    simp only [Int.toNat_natCast] at hr
    rw [hz1] at hr
    exact hr
  have hmade : (w.alloc (.cells (madeCells #[.int .i64 0, .int .i64 0] (s.length * 2)) 114)).ownsRow w.heap.size 114 2 (.slice (some ⟨w.heap.size, 0, none⟩) s.length s.length) s.length (fl (s.take 0) ++ List.replicate ((s.length - 0) * 2) (I 0)) := by
    have h := World.ownsRow_lit (base := w.heap.size) (e := 114) (size := 2) w (madeCells #[Value.int .i64 0, .int .i64 0] (s.length * 2)) s.length (Nat.le_refl _) (by unfold maxLen; omega) (by simp [size_madeCells])
    rw [made2] at h
    simpa [fl] using h
  have HM := Lib.hid hmade
  clear hmade hi hz0 hz1 hz2
  go_enter Try.func87, Try.ntmps87
  go_wp2
  clear hmk
  go_loopw [4] (fun i wr => ∃ k : Nat, k ≤ s.length ∧ i = .int .i64 k ∧ wr.ownsRow w.heap.size 114 2 (.slice (some ⟨w.heap.size, 0, none⟩) s.length s.length) s.length (fl (s.take k) ++ List.replicate ((s.length - k) * 2) (I 0)) ∧ Below w.heap.size w wr) (fun i _ => s.length - (intOf i).toNat)
  case atStart => exact ⟨0, by omega, rfl, HM.out, (Below.refl _ _).alloc (Nat.le_refl _) _⟩
  case round =>
    obtain ⟨k, hk, rfl, hown, hbel⟩ := hrel
    have hsz : w.heap.size ≤ wr.heap.size := hbel.size
    by_cases hlt : k < s.length
    · obtain ⟨b, off, rfl, hb, hc1, hc2⟩ := (H.out.below' hbel (by omega)).stp hlt
      have BEL := Lib.hid hbel
      have OWN := Lib.hid hown
      clear hown hbel
      go_wp2_with fail
      go_at_call 133
      refine (toStep_any _ _ _).mono ?_
      rintro e w5 ⟨rfl, hb5⟩
      have hown5 := own_below OWN.out hb5
      have hl : (fl (s.take k)).length = k * 2 := by rw [fl_length]; simp; omega
      have d0 : w5.cell? ⟨w.heap.size, k * 2, none⟩ = some (I 0) := by
        rw [hown5.cellAt _ (by omega)]
        exact rep_at (by omega) (by omega)
      have d1 : w5.cell? ⟨w.heap.size, k * 2 + 1, none⟩ = some (I 0) := by
        rw [hown5.cellAt _ (by omega)]
        exact rep_at (by omega) (by omega)
      have f0 : w5.frozen? ⟨w.heap.size, k * 2, none⟩ = false := hown5.frozenAt _
      have f1 : w5.frozen? ⟨w.heap.size, k * 2 + 1, none⟩ = false := hown5.frozenAt _
      have HB5 := Lib.hid hb5
      have OWN5 := Lib.hid hown5
      clear hb5 hown5 hl
      go_wp2
      go_roundw
      case rel =>
        refine ⟨k + 1, by omega, by go_num, ?_, (((BEL.out.trans (HB5.out.mono hsz)).setCell (Nat.le_refl _) _).setCell (Nat.le_refl _) _)⟩
        have h := ((OWN5.out.stored (k * 2) (I s[k].1)).1.stored (k * 2 + 1) (I s[k].2)).1
        rw [fill_step s k hlt] at h
        exact h
      case measure => simp [intOf]; omega
    · have hk' : k = s.length := by omega
      have BEL := Lib.hid hbel
      have OWN := Lib.hid hown
      subst hk'
      clear hown hbel
      go_wp2
      go_ret
      refine ⟨_, _, rfl, ?_, BEL.out⟩
      have h := OWN.out
      rw [List.take_of_length_le (Nat.le_refl _)] at h
      simpa [OwS] using h

set_option maxRecDepth 100000 in
set_option maxHeartbeats 1000000 in
theorem toPlan_any (B : Nat) (A1 A2 : Option Addr) (c1 c2 : Nat) (p : Pl) (w : World) (hm1 : p.s.length ≤ 1048576) (hm2 : p.o.length ≤ 1048576) (hB : B ≤ w.heap.size) (hr : RdP w B A1 A2 p) :
    Calls Try.prog 24 #[.agg #[.int .i64 p.n, .slice A1 p.s.length c1, .slice A2 p.o.length c2]] w fun e w' =>
      ∃ B1 B2 d1 d2, e = .returned (.agg #[.int .i64 p.n, .slice B1 p.s.length d1, .slice B2 p.o.length d2]) ∧ OwP w' w.heap.size B1 B2 d1 d2 p ∧ Below w.heap.size w w' := by
  have H := Lib.hid hr
  clear hr
  go_enter Try.func24, Try.ntmps24
  go_wp2_with fail
  go_at_call 87
  generalize hw3 : World.alloc (World.alloc (World.alloc w _) _) _ = w3
  have q0 : w3.heap[w.heap.size]? = some (.cells #[.int .i64 p.n, .slice A1 p.s.length c1, .slice A2 p.o.length c2] 38 (0, 0)) := by
    rw [← hw3, Below.heap_alloc _ _ _ (by simp; omega), Below.heap_alloc _ _ _ (by simp)]; exact heap_alloc_new w _
  have q1 : w3.heap[w.heap.size + 1]? = some (.cells #[.int .i64 0, .slice none 0 0, .slice none 0 0] 44 (0, 0)) := by
    rw [← hw3, Below.heap_alloc _ _ _ (by simp)]
    have := heap_alloc_new (w.alloc (.cells #[.int .i64 p.n, .slice A1 p.s.length c1, .slice A2 p.o.length c2] 38)) (.cells #[.int .i64 0, .slice none 0 0, .slice none 0 0] 44)
    simpa using this
  have q2 : w3.heap[w.heap.size + 2]? = some (.cells #[.int .i64 p.n, .slice none 0 0, .slice none 0 0] 44 (0, 0)) := by
    rw [← hw3]
    have := heap_alloc_new ((w.alloc (.cells #[.int .i64 p.n, .slice A1 p.s.length c1, .slice A2 p.o.length c2] 38)).alloc (.cells #[.int .i64 0, .slice none 0 0, .slice none 0 0] 44)) (.cells #[.int .i64 p.n, .slice none 0 0, .slice none 0 0] 44)
    simpa using this
  have hs3 : w3.heap.size = w.heap.size + 3 := by rw [← hw3]; simp
  have hb3 : Below w.heap.size w w3 := by rw [← hw3]; exact (((Below.refl _ _).alloc (Nat.le_refl _) _).alloc (by simp) _).alloc (by simp; omega) _
  clear hw3
  refine (toStepS_any B A1 c1 p.s w3 hm1 (by omega) (H.out.below' hb3 hB).1).mono ?_
  rintro e w5 ⟨B1, d1, rfl, hown5, hb5⟩
  have r0 := (hb5.block _ (by omega)).trans q0
  have r1 := (hb5.block _ (by omega)).trans q1
  have r2 := (hb5.block _ (by omega)).trans q2
  have a0 : w5.cell? ⟨w.heap.size, 2, none⟩ = some (.slice A2 p.o.length c2) := by rw [cell_of_row w5 _ 2 _ _ (0, 0) r0]; rfl
  have a1 : w5.cell? ⟨w.heap.size + 2, 1, none⟩ = some (.slice none 0 0) := by rw [cell_of_row w5 _ 1 _ _ (0, 0) r2]; rfl
  have a2 : w5.frozen? ⟨w.heap.size + 2, 1, none⟩ = false := frozen_of_row w5 _ 1 _ _ r2
  have R0 := Lib.hid r0
  have R1 := Lib.hid r1
  have R2 := Lib.hid r2
  have HS3 := Lib.hid hs3
  have OWN5 := Lib.hid hown5
  have HB5 := Lib.hid (hb3.trans (hb5.mono (by omega)))
  have HZ5 := Lib.hid (show w.heap.size + 3 ≤ w5.heap.size by have := hb5.size; omega)
  clear q0 q1 q2 r0 r1 r2 hs3 hb3 hb5 hown5
  go_wp2_with fail
  go_at_call 73
  generalize hw6 : World.setCell w5 _ _ = w6
  have t0 : w6.heap[w.heap.size]? = some (.cells #[.int .i64 p.n, .slice A1 p.s.length c1, .slice A2 p.o.length c2] 38 (0, 0)) := by
    rw [← hw6, Below.heap_setCell _ _ _ _ (by simp; omega)]; exact R0.out
  have t1 : w6.heap[w.heap.size + 1]? = some (.cells #[.int .i64 0, .slice none 0 0, .slice none 0 0] 44 (0, 0)) := by
    rw [← hw6, Below.heap_setCell _ _ _ _ (by simp)]; exact R1.out
  have t2 : w6.heap[w.heap.size + 2]? = some (.cells #[.int .i64 p.n, .slice B1 p.s.length d1, .slice none 0 0] 44 (0, 0)) := by
    rw [← hw6, heap_setCell_same w5 _ 1 _ _ _ R2.out]; rfl
  have ho6 : OwS w6 (w.heap.size + 3) (.slice B1 p.s.length d1) p.s := by
    rw [← hw6]; exact own_set (own_base OWN5.out (by have := HS3.out; omega)) R2.out (by decide) _
  have hb6 : Below w.heap.size w w6 := by rw [← hw6]; exact HB5.out.setCell (by simp; omega) _
  have hz6 : w.heap.size + 3 ≤ w6.heap.size := by have := HZ5.out; rw [← hw6]; simpa using this
  clear hw6 a0 a1 a2
  refine (toIntS_any B A2 c2 p.o w6 hm2 (by omega) (H.out.below' hb6 hB).2).mono ?_
  rintro e w7 ⟨B2, d2, rfl, hown7, hb7⟩
  have r1 := (hb7.block _ (by omega)).trans t1
  have r2 := (hb7.block _ (by omega)).trans t2
  have ho7 := own_below ho6 hb7
  have a0 : w7.cell? ⟨w.heap.size + 2, 0, none⟩ = some (.int .i64 p.n) := by rw [cell_of_row w7 _ 0 _ _ (0, 0) r2]; rfl
  have a1 : w7.cell? ⟨w.heap.size + 2, 1, none⟩ = some (.slice B1 p.s.length d1) := by rw [cell_of_row w7 _ 1 _ _ (0, 0) r2]; rfl
  have a2 : w7.cell? ⟨w.heap.size + 2, 2, none⟩ = some (.slice none 0 0) := by rw [cell_of_row w7 _ 2 _ _ (0, 0) r2]; rfl
  have a3 : w7.frozen? ⟨w.heap.size + 2, 2, none⟩ = false := frozen_of_row w7 _ 2 _ _ r2
  have b0 : w7.cell? ⟨w.heap.size + 1, 0, none⟩ = some (.int .i64 0) := by rw [cell_of_row w7 _ 0 _ _ (0, 0) r1]; rfl
  have b1 : w7.cell? ⟨w.heap.size + 1, 1, none⟩ = some (.slice none 0 0) := by rw [cell_of_row w7 _ 1 _ _ (0, 0) r1]; rfl
  have b2 : w7.cell? ⟨w.heap.size + 1, 2, none⟩ = some (.slice none 0 0) := by rw [cell_of_row w7 _ 2 _ _ (0, 0) r1]; rfl
  have g0 : w7.frozen? ⟨w.heap.size + 1, 0, none⟩ = false := frozen_of_row w7 _ 0 _ _ r1
  have g1 : w7.frozen? ⟨w.heap.size + 1, 1, none⟩ = false := frozen_of_row w7 _ 1 _ _ r1
  have g2 : w7.frozen? ⟨w.heap.size + 1, 2, none⟩ = false := frozen_of_row w7 _ 2 _ _ r1
  have R1' := Lib.hid r1
  have R2' := Lib.hid r2
  have OS := Lib.hid ho7
  have OI := Lib.hid (own_base hown7 (show w.heap.size ≤ w6.heap.size by omega))
  have HB7 := Lib.hid (hb6.trans (hb7.mono (by omega)))
  clear t0 t1 t2 ho6 hb6 hz6 hown7 hb7 r1 r2 ho7
  go_wp2
  refine bodyPost_ret (v := .agg #[.int .i64 p.n, .slice B1 p.s.length d1, .slice B2 p.o.length d2]) (by simp [results, Try.results24, go_sem, b0, b1, b2]) rfl ⟨B1, B2, d1, d2, rfl, ⟨?_, ?_⟩, ?_⟩
  · have h1 := own_set (o := 2) (own_base OS.out (show w.heap.size ≤ w.heap.size + 3 by omega)) R2'.out (by decide) (.slice B2 p.o.length d2)
    have k1 : (w7.setCell ⟨w.heap.size + 2, 2, none⟩ (.slice B2 p.o.length d2)).heap[w.heap.size + 1]? = _ := (Below.heap_setCell _ _ _ _ (by simp)).trans R1'.out
    have h2 := own_set (o := 0) h1 k1 (by decide) (.int .i64 p.n)
    have k2 := heap_setCell_same _ _ 0 _ _ (.int .i64 p.n) k1
    have h3 := own_set (o := 1) h2 k2 (by decide) (.slice B1 p.s.length d1)
    have k3 := heap_setCell_same _ _ 1 _ _ (.slice B1 p.s.length d1) k2
    exact own_set (o := 2) h3 k3 (by decide) (.slice B2 p.o.length d2)
  · have h1 := own_set (o := 2) OI.out R2'.out (by decide) (.slice B2 p.o.length d2)
    have k1 : (w7.setCell ⟨w.heap.size + 2, 2, none⟩ (.slice B2 p.o.length d2)).heap[w.heap.size + 1]? = _ := (Below.heap_setCell _ _ _ _ (by simp)).trans R1'.out
    have h2 := own_set (o := 0) h1 k1 (by decide) (.int .i64 p.n)
    have k2 := heap_setCell_same _ _ 0 _ _ (.int .i64 p.n) k1
    have h3 := own_set (o := 1) h2 k2 (by decide) (.slice B1 p.s.length d1)
    have k3 := heap_setCell_same _ _ 1 _ _ (.slice B1 p.s.length d1) k2
    exact own_set (o := 2) h3 k3 (by decide) (.slice B2 p.o.length d2)
  · exact (((HB7.out.setCell (by simp; omega) _).setCell (by simp) _).setCell (by simp) _).setCell (by simp) _
end Go.Proofs.Ytbbjgcagkmlngab
/- The laws' own helpers: comparison of plans. -/
namespace Go.Proofs.Ytbbjgcagkmlngab
open Go.RowKit

set_option maxHeartbeats 400000 in
theorem eqStep_any (a b c d : Int) (w : World) :
    Calls Try.prog 139 #[.agg #[.int .i64 a, .int .i64 b], .agg #[.int .i64 c, .int .i64 d]] w fun e w' => e = .returned (.bool (decide ((a, b) = (c, d)))) ∧ Below w.heap.size w w' := by
  have hb : ∀ o o', Below w.heap.size w ((w.alloc o).alloc o') := fun o o' => ((Below.refl _ _).alloc (Nat.le_refl _) _).alloc (by simp) _
  have HB := Lib.hid hb
  clear hb
  by_cases h1 : a = c
  · by_cases h2 : b = d
    · subst h1
      subst h2
      go_enter Try.func139, Try.ntmps139
      go_wp2
      go_ret
      exact ⟨ret_bool (by simp), HB.out _ _⟩
    · have e : decide ((a, b) = (c, d)) = false := by simp [h2]
      have E := Lib.hid e
      have hne : (b != d) = true := by simpa using h2
      subst h1
      clear e h2
      go_enter Try.func139, Try.ntmps139
      go_wp2
      go_ret
      exact ⟨ret_bool E.out.symm, HB.out _ _⟩
  · have e : decide ((a, b) = (c, d)) = false := by simp [h1]
    have E := Lib.hid e
    have hne : (a != c) = true := by simpa using h1
    clear e h1
    go_enter Try.func139, Try.ntmps139
    go_wp2
    go_ret
    exact ⟨ret_bool E.out.symm, HB.out _ _⟩

set_option maxHeartbeats 400000 in
theorem eqIntS_any (B B' : Nat) (A A' : Option Addr) (c c' : Nat) (a b : List Int) (w : World) (hm : a.length ≤ 4000000) (_hm' : b.length ≤ 4000000) (hr : Rd w B 1 A a.length (a.map I)) (hr' : Rd w B' 1 A' b.length (b.map I)) :
    Calls Try.prog 26 #[.slice A a.length c, .slice A' b.length c'] w fun e w' => e = .returned (.bool (eqI a b)) ∧ Dr w w' := by
  have H := Lib.hid hr
  have H' := Lib.hid hr'
  clear hr hr'
  by_cases hl : a.length = b.length
  · have hlb : ((a.length : Int) == (b.length : Int)) = true := by simp [hl]
    have L := Lib.hid hl
    clear hl
    go_enter Try.func26, Try.ntmps26
    go_wp2
    go_loopw [5] (fun i wr => ∃ k n : Nat, k ≤ a.length ∧ i = .int .i64 k ∧ a.take k = b.take k ∧ wr = w.drewN n) (fun i _ => a.length - (intOf i).toNat)
    case atStart => exact ⟨0, 0, by omega, rfl, rfl, rfl⟩
    case round =>
      obtain ⟨k, n, hk, rfl, hq, rfl⟩ := hrel
      have Q := Lib.hid hq
      clear hq
      by_cases hlt : k < a.length
      · have hlt' : k < b.length := by have := L.out; omega
        obtain ⟨b1, off, rfl, hb, hcell⟩ := H.out.int hlt
        obtain ⟨b2, off2, rfl, hb2, hcell2⟩ := H'.out.int hlt'
        have i1 : (k : Int) < (a.length : Int) := by omega
        have i2 : (k : Int) < (b.length : Int) := by omega
        have i0 : (0 : Int) ≤ (k : Int) := by omega
        go_wp2
        go_quiet (fail)
        go_wp2
        · go_ret
          exact ⟨ret_bool (eqI_miss hlt hlt' (by assumption)).symm, Dr.mk2 _ _ _⟩
        · have he : (a[k] != b[k]) = false := by assumption
          go_roundw
          case rel => exact ⟨k + 1, _, by omega, by go_num, same_take hlt hlt' Q.out (by simpa using he), rfl⟩
          case measure => simp [intOf]; omega
      · go_wp2
        go_ret
        exact ⟨ret_bool (eqI_end L.out hlt Q.out).symm, Dr.mk _ _⟩
  · have hlb : ((a.length : Int) != (b.length : Int)) = true := by rw [bne_iff_ne]; omega
    have L := Lib.hid hl
    clear hl
    go_enter Try.func26, Try.ntmps26
    go_wp2
    go_ret
    exact ⟨ret_bool (eqI_len L.out).symm, Dr.refl _⟩

set_option maxRecDepth 100000 in
set_option maxHeartbeats 1000000 in
theorem eqStepS_any (B B' : Nat) (A A' : Option Addr) (c c' : Nat) (a b : List (Int × Int)) (w : World) (hm : a.length ≤ 4000000) (_hm' : b.length ≤ 4000000) (hB : B ≤ w.heap.size) (hB' : B' ≤ w.heap.size) (hr : Rd w B 2 A a.length (fl a)) (hr' : Rd w B' 2 A' b.length (fl b)) :
    Calls Try.prog 90 #[.slice A a.length c, .slice A' b.length c'] w fun e w' => e = .returned (.bool (decide (a = b))) ∧ Below w.heap.size w w' := by
  have H := Lib.hid hr
  have H' := Lib.hid hr'
  clear hr hr'
  by_cases hl : a.length = b.length
  · have hlb : ((a.length : Int) != (b.length : Int)) = false := by simp [hl]
    have L := Lib.hid hl
    clear hl
    go_enter Try.func90, Try.ntmps90
    go_wp2
    go_loopw [5] (fun i wr => ∃ k : Nat, k ≤ a.length ∧ i = .int .i64 k ∧ a.take k = b.take k ∧ Below w.heap.size w wr) (fun i _ => a.length - (intOf i).toNat)
    case atStart => exact ⟨0, by omega, rfl, rfl, Below.refl _ _⟩
    case round =>
      obtain ⟨k, hk, rfl, hq, hbel⟩ := hrel
      have Q := Lib.hid hq
      clear hq
      by_cases hlt : k < a.length
      · have hlt' : k < b.length := by have := L.out; omega
        obtain ⟨b1, off, rfl, hb, hc1, hc2⟩ := (H.out.below' hbel hB).stp hlt
        obtain ⟨b2, off2, rfl, hb2, hd1, hd2⟩ := (H'.out.below' hbel hB').stp hlt'
        have i1 : (k : Int) < (a.length : Int) := by omega
        have i2 : (k : Int) < (b.length : Int) := by omega
        have i0 : (0 : Int) ≤ (k : Int) := by omega
        have BEL := Lib.hid hbel
        clear hbel
        obtain ⟨q, hq⟩ : ∃ q, decide (((a[k]).1, (a[k]).2) = ((b[k]).1, (b[k]).2)) = q := ⟨_, rfl⟩
        cases q with
        | true =>
          have QQ := Lib.hid hq
          clear hq
          go_wp2
          refine wp_region_Tw [0, 1, 2, 3, 4, 5, 6, 7, 9] [3, 7] (.lp 0 (.lp 1 (.lp 2 (.lp 4 (.lp 5 (.lp 6 (.ls 3 (.ls 7 (.hv 8 (.lp 9 (.done))))))))))) (by kernel_rfl) (by kernel_rfl) ?_
          (repeat (first | (refine T_lp rfl (fun K hK => ?_); go_simp; refine hK _ ?_; clear hK K) | (refine T_ls rfl rfl (fun K hK => ?_); go_simp; refine hK _ ?_; clear hK K)))
          (refine T_hv rfl (by kernel_rfl) (fun K hK => ?_); go_simp)
          go_at_call 139
          have hE := eqStep_any (a[k]).1 (a[k]).2 (b[k]).1 (b[k]).2 wr.drew
          rw [QQ.out] at hE
          refine hE.mono ?_
          rintro e w5 ⟨rfl, hb5⟩
          clear hE
          (go_simp; refine hK _ _ ?_; clear hK K)
          (repeat (first | (refine T_lp rfl (fun K hK => ?_); go_simp; refine hK _ ?_; clear hK K) | (refine T_ls rfl rfl (fun K hK => ?_); go_simp; refine hK _ ?_; clear hK K)))
          refine T_done ?_
          go_wp2
          go_roundw
          case rel =>
            refine ⟨k + 1, by omega, by go_num, ?_, BEL.out.drew.trans (hb5.mono (by have := BEL.out.size; simpa using this))⟩
            rw [List.take_succ_eq_append_getElem hlt, List.take_succ_eq_append_getElem hlt', Q.out]
            have := QQ.out
            simp only [decide_eq_true_eq] at this
            rw [show a[k] = b[k] from this]
          case measure => simp [intOf]; omega
        | false =>
          have QQ := Lib.hid hq
          clear hq
          go_wp2
          refine wp_region_Tw [0, 1, 2, 3, 4, 5, 6, 7, 9] [3, 7] (.lp 0 (.lp 1 (.lp 2 (.lp 4 (.lp 5 (.lp 6 (.ls 3 (.ls 7 (.hv 8 (.lp 9 (.done))))))))))) (by kernel_rfl) (by kernel_rfl) ?_
          (repeat (first | (refine T_lp rfl (fun K hK => ?_); go_simp; refine hK _ ?_; clear hK K) | (refine T_ls rfl rfl (fun K hK => ?_); go_simp; refine hK _ ?_; clear hK K)))
          (refine T_hv rfl (by kernel_rfl) (fun K hK => ?_); go_simp)
          go_at_call 139
          have hE := eqStep_any (a[k]).1 (a[k]).2 (b[k]).1 (b[k]).2 wr.drew
          rw [QQ.out] at hE
          refine hE.mono ?_
          rintro e w5 ⟨rfl, hb5⟩
          clear hE
          (go_simp; refine hK _ _ ?_; clear hK K)
          (repeat (first | (refine T_lp rfl (fun K hK => ?_); go_simp; refine hK _ ?_; clear hK K) | (refine T_ls rfl rfl (fun K hK => ?_); go_simp; refine hK _ ?_; clear hK K)))
          refine T_done ?_
          go_wp2
          go_ret
          refine ⟨ret_bool ?_, BEL.out.drew.trans (hb5.mono (by have := BEL.out.size; simpa using this))⟩
          symm
          rw [decide_eq_false_iff_not]
          intro e
          subst e
          have := QQ.out
          simp at this
      · go_wp2
        go_ret
        refine ⟨ret_bool ?_, hbel⟩
        have h := Q.out
        have h2 := L.out
        rw [List.take_of_length_le (by omega), List.take_of_length_le (by omega)] at h
        simp [h]
  · have hlb : ((a.length : Int) != (b.length : Int)) = true := by rw [bne_iff_ne]; omega
    have L := Lib.hid hl
    clear hl
    go_enter Try.func90, Try.ntmps90
    go_wp2
    go_ret
    refine ⟨ret_bool ?_, Below.refl _ _⟩
    symm
    rw [decide_eq_false_iff_not]
    intro e
    exact L.out (by rw [e])

def eqP (p q : Pl) : Bool := decide (p.n = q.n) && (decide (p.s = q.s) && decide (p.o = q.o))

set_option maxRecDepth 100000 in
set_option maxHeartbeats 1000000 in
theorem eqPlan_any (B B' : Nat) (A1 A2 A3 A4 : Option Addr) (c1 c2 c3 c4 : Nat) (p q : Pl) (w : World) (h1 : p.s.length ≤ 4000000) (h2 : p.o.length ≤ 4000000) (h3 : q.s.length ≤ 4000000) (h4 : q.o.length ≤ 4000000)
    (hB : B ≤ w.heap.size) (hB' : B' ≤ w.heap.size) (hr : RdP w B A1 A2 p) (hr' : RdP w B' A3 A4 q) :
    Calls Try.prog 27 #[.agg #[.int .i64 p.n, .slice A1 p.s.length c1, .slice A2 p.o.length c2], .agg #[.int .i64 q.n, .slice A3 q.s.length c3, .slice A4 q.o.length c4]] w fun e w' =>
      e = .returned (.bool (eqP p q)) ∧ Below w.heap.size w w' := by
  have H := Lib.hid hr
  have H' := Lib.hid hr'
  clear hr hr'
  by_cases hn : p.n = q.n
  case neg =>
    have e : eqP p q = false := by simp [eqP, hn]
    have E := Lib.hid e
    have hne : (p.n != q.n) = true := by simpa using hn
    clear e hn
    go_enter Try.func27, Try.ntmps27
    go_wp2
    go_ret
    exact ⟨ret_bool E.out.symm, ((Below.refl _ _).alloc (Nat.le_refl _) _).alloc (by simp) _⟩
  case pos =>
  have hne : (p.n != q.n) = false := by simpa using hn
  obtain ⟨x, hx⟩ : ∃ x, decide (p.s = q.s) = x := ⟨_, rfl⟩
  obtain ⟨y, hy⟩ : ∃ y, eqI p.o q.o = y := ⟨_, rfl⟩
  have e : eqP p q = (x && y) := by
    have hy' : decide (p.o = q.o) = y := hy
    simp [eqP, hn, hx, hy']
  have E := Lib.hid e
  have HX := Lib.hid hx
  have HY := Lib.hid hy
  clear e hx hy hn
  go_enter Try.func27, Try.ntmps27
  go_wp2_with fail
  go_at_call 90
  generalize hw3 : World.alloc (World.alloc w _) _ = w3
  have f0 : w3.cell? ⟨w.heap.size, 2, none⟩ = some (.slice A2 p.o.length c2) := by
    rw [← hw3, World.cell?_alloc_lt _ _ _ (by simp), World.cell?_alloc_at _ _ _ _ rfl]; rfl
  have f1 : w3.cell? ⟨w.heap.size + 1, 2, none⟩ = some (.slice A4 q.o.length c4) := by
    rw [← hw3, World.cell?_alloc_at _ _ _ _ (by simp)]; rfl
  have hb3 : Below w.heap.size w w3 := by rw [← hw3]; exact ((Below.refl _ _).alloc (Nat.le_refl _) _).alloc (by simp) _
  have hs3 : w3.heap.size = w.heap.size + 2 := by rw [← hw3]; simp
  clear hw3
  have hE := eqStepS_any B B' A1 A3 c1 c3 p.s q.s w3 h1 h3 (by omega) (by omega) (H.out.below' hb3 hB).1 (H'.out.below' hb3 hB').1
  rw [HX.out] at hE
  refine hE.mono ?_
  rintro e w4 ⟨rfl, hb4⟩
  clear hE
  have g0 := (hb4.cell (p := ⟨w.heap.size, 2, none⟩) (by simp only []; omega)).trans f0
  have g1 := (hb4.cell (p := ⟨w.heap.size + 1, 2, none⟩) (by simp only []; omega)).trans f1
  have hb := hb3.trans (hb4.mono (show w.heap.size ≤ w3.heap.size by omega))
  have HB := Lib.hid hb
  clear f0 f1 hb3 hs3 hb4 hb
  cases x with
  | false =>
    go_wp2
    go_ret
    exact ⟨ret_bool E.out.symm, HB.out⟩
  | true =>
    go_wp2_with fail
    go_at_call 26
    have hE := eqIntS_any B B' A2 A4 c2 c4 p.o q.o w4 h2 h4 (H.out.below' HB.out hB).2 (H'.out.below' HB.out hB').2
    rw [HY.out] at hE
    refine hE.mono ?_
    rintro e w5 ⟨rfl, hd⟩
    clear hE
    have HB5 := Lib.hid (HB.out.trans (hd.below _))
    clear hd
    cases y with
    | false =>
      go_wp2
      go_ret
      exact ⟨ret_bool E.out.symm, HB5.out⟩
    | true =>
      go_wp2
      go_ret
      exact ⟨ret_bool E.out.symm, HB5.out⟩
end Go.Proofs.Ytbbjgcagkmlngab
/- What both sides answer to IsPlan. -/
namespace Go.Proofs.Ytbbjgcagkmlngab
open Go.RowKit

set_option maxHeartbeats 400000 in
theorem implIsPlan_any (B : Nat) (A1 A2 : Option Addr) (c1 c2 : Nat) (p : Pl) (w : World) (hB : B ≤ w.heap.size) (hls : p.s.length ≤ 2000000) (hlo : p.o.length ≤ 2000000) (hr : RdP w B A1 A2 p) :
    Calls Try.prog 142 #[.agg #[.int .i64 p.n, .slice A1 p.s.length c1, .slice A2 p.o.length c2]] w fun e w' => e = .returned (.bool (good p)) ∧ Below w.heap.size w w' := by
  have H := Lib.hid hr
  clear hr
  go_enter Try.func142, Try.ntmps142
  go_wp2_with fail
  go_at_call 88
  refine (withValues_any B A1 A2 c1 c2 p _ (by simp; omega) hls hlo (H.out.alloc hB _)).mono ?_
  rintro e w2 ⟨hb2, hpost⟩
  have hb := ((Below.refl w.heap.size w).alloc (Nat.le_refl _) (Obj.cells #[.int .i64 p.n, .slice A1 p.s.length c1, .slice A2 p.o.length c2] 44)).trans (hb2.mono (by simp))
  have HB := Lib.hid hb
  clear hb hb2
  rw [valsI_eq] at hpost
  by_cases hg : good p = true
  · rw [if_pos hg] at hpost
    simp only at hpost
    obtain ⟨A, c, rfl, _⟩ := hpost
    have HG := Lib.hid hg
    clear hg
    go_wp2
    go_ret
    exact ⟨ret_bool HG.out.symm, HB.out.alloc (by have := HB.out.size; omega) _⟩
  · rw [if_neg hg] at hpost
    simp only at hpost
    subst hpost
    have hg' : good p = false := by simpa using hg
    have HG := Lib.hid hg'
    clear hg hg'
    go_wp2
    go_ret
    exact ⟨ret_bool HG.out.symm, HB.out.alloc (by have := HB.out.size; omega) _⟩

theorem eqP_refl (p : Pl) : eqP p p = true := by simp [eqP]

end Go.Proofs.Ytbbjgcagkmlngab
/- What is known of a valid plan. -/
namespace Go.Proofs.Ytbbjgcagkmlngab
open Go.RowKit

theorem good_facts {p : Pl} (h : good p = true) : ∃ N : Nat, p.n = N ∧ 1 ≤ N ∧ N ≤ 6 ∧ p.s.length ≤ 40 ∧ p.o.length ≤ 6 ∧ OkS N p.s ∧ (∀ x ∈ p.o, 0 ≤ x ∧ x < (N : Int) + p.s.length) ∧ expsB (exps N p.s) = true := by
  unfold good at h
  simp only [Bool.and_eq_true, decide_eq_true_eq] at h
  obtain ⟨h1, h2, h3, h4, h5, h6⟩ := h
  obtain ⟨n1, n2⟩ : 1 ≤ p.n ∧ p.n ≤ 6 := by simpa [inB] using h1
  obtain ⟨N, hN⟩ : ∃ N : Nat, p.n = N := ⟨p.n.toNat, by omega⟩
  have e : p.n.toNat = N := by omega
  rw [e] at h5
  rw [hN] at h4
  refine ⟨N, hN, by omega, by omega, h2, h3, okS_of_pre h4, ?_, h5⟩
  intro x hx
  unfold allB at h6
  rw [List.all_eq_true] at h6
  have := h6 x hx
  simp only [inB, Bool.and_eq_true, decide_eq_true_eq] at this
  omega
end Go.Proofs.Ytbbjgcagkmlngab
/- append of a whole slice, which may have no elements, onto an own slice; copies of lists. -/
namespace Go.Proofs.Ytbbjgcagkmlngab
open Go.RowKit

section
variable {ops : Array Oper} {o : Oper} {a : Act} {Q : Exit → Act → World → Prop} {w : World} {T e : TypeId} {z : Value} {bts : Nat}

/-- append(v, xs...): m elements of sz cells, out of a slice that reads. -/
theorem step_appM {K : Act → World → Prop} {E : Prop} {sz : Nat} (ht : Try.prog.underlying T = some (.slice e)) (hinf : (Try.prog.info? e).map (fun i => (i.zero, i.size, i.bytes)) = some (some z, sz, bts)) (hz : z.cells.size = sz) (hs0 : 0 < sz) (hb : bts ≤ 64)
    (hgd : o.guard = none) (s x : Operand) (ho : o.op = .call { callee := .builtin .append, args := #[s, x], argTypes := #[T, T] })
    (B n : Nat) (v : Value) (xs : List Value) (hs : a.eval s = v) (hown : w.ownsRow B e sz v n xs) (A : Option Addr) (m c : Nat) (news : List Value) (hx : a.eval x = .slice A m c)
    {C : Nat} (hr : Rd w C sz A m news) (h1 : ∀ u ∈ news, u.oneCell' = true) (hn : n + m ≤ 4000000) (hB : B ≤ w.heap.size)
    (h : ∀ A' c' w', w'.ownsRow B e sz (.slice A' (n + m) c') (n + m) (xs ++ news) → w.grownBy w' v.ownBlock → Below B w w' → K (a.put o.dst (.slice A' (n + m) c')) w') :
    if Region.wanted o (yielded ops a.tmps) = true then Oper.wp Try.prog o a w K Q else E := by
  obtain ⟨i0, hi, hz0, hz1, hz2⟩ := info_parts hinf
  by_cases hm : 0 < m
  · obtain ⟨b, off, rfl, hbl, hc⟩ := hr.2 hm
    refine step_append_lies _ hgd s x _ ho B e i0 z sz bts ht hi hz0 hz1 hz2 hz hs0 v n xs hs hown ⟨b, off, none⟩ m c news hx hr.1 ?_ h1 hm (by unfold maxLen; omega) (by
      have : (n + m) * bts ≤ 4000000 * 64 := Nat.mul_le_mul (by omega) hb
      omega) hB w.heap.size rfl ?_
    · intro j y hj
      have hlt : j < m * sz := by rw [← hr.1]; exact (List.getElem?_eq_some_iff.1 hj).1
      have e0 : (⟨b, off, none⟩ : Addr).add j = ⟨b, off + j, none⟩ := by unfold Addr.add; split <;> simp_all
      rw [e0, hc j hlt, hj]
    · intro g cap w' hown' hg _ _
      exact h _ cap w' hown' hg (below_of_own hown hB hg)
  · have hm0 : m = 0 := by omega
    subst hm0
    have hnil : news = [] := by have := hr.1; simpa using this
    subst hnil
    have hw : Region.wanted o (yielded ops a.tmps) = true := by simp [Region.wanted, hgd]
    rw [if_pos hw]
    have key : ∃ v' w', (Builtin.append_ #[T, T] o.type #[v, .slice A 0 c]).run Try.prog w = .ok v' w' ∧ w'.ownsRow B e sz v' (n + 0) (xs ++ []) ∧ w.grownBy w' v.ownBlock := by
      cases A with
      | some ad =>
        obtain ⟨v', w', hr', h2, h3, _⟩ := run_append_own_at (P := Try.prog) w B T o.type e i0 z sz bts ht hi hz0 hz1 hz2 hz hs0 v n xs hown ad 0 c [] (by simp) (fun j u hu => by simp at hu) (by simp) (by unfold maxLen; omega) (by
          have : (n + 0) * bts ≤ 4000000 * 64 := Nat.mul_le_mul (by omega) hb
          omega) hB
        exact ⟨v', w', hr', h2, h3⟩
      | none =>
        obtain ⟨A0, c0, rfl, hle⟩ := own_form hown
        refine ⟨.slice A0 n c0, w, ?_, by simpa using hown, World.grownBy.refl _ _⟩
        cases A0 <;> simp [Builtin.append_, run_underlying ht, sizeOf, typeInfo, hi, hle, storeCells, Builtin.lenOf, Builtin.firstCells, Value.cells]
    obtain ⟨v', w', hr', h2, h3⟩ := key
    obtain ⟨A', c', rfl, _⟩ := own_form h2
    unfold Oper.wp execOp
    simp only [ho, resolve, invoke, builtin, Sem.run_bind, Sem.run_pure, Result.andThen_ok, List.map_toArray, List.map_cons, List.map_nil, hs, hx, hr']
    exact h A' c' w' h2 h3 (below_of_own hown hB h3)
end

theorem ints_one (l : List Int) : ∀ u ∈ l.map I, u.oneCell' = true := by
  intro u hu
  obtain ⟨_, _, rfl⟩ := List.mem_map.1 hu
  rfl
theorem fl_one (s : List (Int × Int)) : ∀ u ∈ fl s, u.oneCell' = true := by
  intro u hu
  simp only [fl, List.mem_flatMap, List.mem_cons, List.not_mem_nil, or_false] at hu
  obtain ⟨p, _, h⟩ := hu
  rcases h with rfl | rfl <;> rfl
/-- A new block without cells. -/
theorem own_empty {w : World} {B : Nat} {e : TypeId} (sz : Nat) (hB : B ≤ w.heap.size) : (w.alloc (.cells #[] e)).ownsRow B e sz (.slice (some ⟨w.heap.size, 0, none⟩) 0 0) 0 [] := by
  have h := World.ownsRow_lit (base := B) (e := e) (size := sz) w #[] 0 hB (by unfold maxLen; omega) (by simp)
  simpa using h

set_option maxHeartbeats 400000 in
theorem l1Own_any (B : Nat) (A : Option Addr) (c : Nat) (l : List Int) (w : World) (hm : l.length ≤ 1000000) (hB : B ≤ w.heap.size) (hr : Rd w B 1 A l.length (l.map I)) :
    Calls Try.prog 70 #[.slice A l.length c] w fun e w' => ∃ A' c', e = .returned (.slice A' l.length c') ∧ OwI w' w.heap.size (.slice A' l.length c') l ∧ Below w.heap.size w w' := by
  have H := Lib.hid hr
  clear hr
  go_enter Try.func70, Try.ntmps70
  go_wp2_with (first
    | (at_builtin; refine list_step (fun K hK => ?_); refine step_appM Try.underlying22 info_int rfl (by omega) (by omega) rfl (.tmp 3) (.tmp 4) rfl w.heap.size 0 _ [] rfl (own_empty 1 (Nat.le_refl _)) A l.length c (l.map I) rfl (H.out.alloc hB _) (ints_one l) (by omega) (by simp) ?_; intro A2 c2 w2 hown2 hg2 hbel2; go_simp; refine hK _ _ ?_; clear hK K))
  go_ret
  simp only [Nat.zero_add, List.nil_append] at hown2
  exact ⟨A2, c2, by simp, hown2, ((Below.refl _ _).alloc (Nat.le_refl _) _).trans hbel2⟩
end Go.Proofs.Ytbbjgcagkmlngab
/- The laws' own helpers: marks. -/
namespace Go.Proofs.Ytbbjgcagkmlngab
open Go.RowKit

def marksI (k : Int) (n : Nat) : List Int := (List.range n).map fun i : Nat => k + (i : Int)
def marksS (k : Int) (n : Nat) : List (Int × Int) := (List.range n).map fun i : Nat => (k + 2 * (i : Int), k + 2 * (i : Int) + 1)
theorem marksI_length (k : Int) (n : Nat) : (marksI k n).length = n := by simp [marksI]
theorem marksS_length (k : Int) (n : Nat) : (marksS k n).length = n := by simp [marksS]
theorem marksI_succ (k : Int) (n : Nat) : marksI k (n + 1) = marksI k n ++ [k + (n : Int)] := by
  unfold marksI
  rw [List.range_succ, List.map_append]
  rfl
theorem marksS_succ (k : Int) (n : Nat) : marksS k (n + 1) = marksS k n ++ [(k + 2 * (n : Int), k + 2 * (n : Int) + 1)] := by
  unfold marksS
  rw [List.range_succ, List.map_append]
  rfl
/-- The first k of a list replaced. -/
def over {α : Type} (xs ys : List α) (k : Nat) : List α := xs.take k ++ ys.drop k
theorem over_set_int (l : List Int) (m : Int) (k : Nat) (hk : k < l.length) :
    (((marksI m k) ++ l.drop k).map I).set k (I (m + (k : Int))) = ((marksI m (k + 1)) ++ l.drop (k + 1)).map I := by
  rw [← List.map_set, List.set_append_right _ _ (by rw [marksI_length]; omega), marksI_length, Nat.sub_self, marksI_succ, List.drop_eq_getElem_cons hk, List.set_cons_zero]
  simp
theorem over_set_step (s : List (Int × Int)) (m : Int) (k : Nat) (hk : k < s.length) :
    ((fl ((marksS m k) ++ s.drop k)).set (k * 2) (I (m + 2 * (k : Int)))).set (k * 2 + 1) (I (m + 2 * (k : Int) + 1)) = fl ((marksS m (k + 1)) ++ s.drop (k + 1)) := by
  have e : ∀ a b : List (Int × Int), fl (a ++ b) = fl a ++ fl b := fun a b => by simp [fl]
  have hl : (fl (marksS m k)).length = k * 2 := by rw [fl_length, marksS_length]
  have e2 : fl (s.drop k) = I (s[k]).1 :: I (s[k]).2 :: fl (s.drop (k + 1)) := by rw [List.drop_eq_getElem_cons hk]; rfl
  rw [e, e2, List.set_append_right _ _ (by omega), hl, Nat.sub_self, List.set_cons_zero, List.set_append_right _ _ (by omega), hl, show k * 2 + 1 - k * 2 = 1 by omega, List.set_cons_succ, List.set_cons_zero, marksS_succ, e, e]
  simp [fl]

set_option maxHeartbeats 1000000 in
theorem markIntS_any (B : Nat) (A : Option Addr) (c : Nat) (l : List Int) (m : Int) (w : World) (hm : l.length ≤ 4000000) (hm0 : 0 ≤ m) (hm1 : m ≤ 100000000) (hown : OwI w B (.slice A l.length c) l) :
    Calls Try.prog 29 #[.slice A l.length c, .int .i64 m] w fun e w' => e = .returned (.int .i64 (m + (l.length : Int))) ∧ OwI w' B (.slice A l.length c) (marksI m l.length) ∧ w.grownBy w' (Value.slice A l.length c).ownBlock := by
  have HOWN := Lib.hid hown
  clear hown
  go_enter Try.func29, Try.ntmps29
  go_wp2
  go_loopw [1, 5] (fun kv iv wr => ∃ k : Nat, k ≤ l.length ∧ iv = .int .i64 k ∧ kv = .int .i64 (m + (k : Int)) ∧ OwI wr B (.slice A l.length c) (marksI m k ++ l.drop k) ∧ w.grownBy wr (Value.slice A l.length c).ownBlock) (fun _ i _ => l.length - (intOf i).toNat)
  case atStart => exact ⟨0, by omega, rfl, by simp, HOWN.out, World.grownBy.refl _ _⟩
  case round =>
    obtain ⟨k, hk, rfl, rfl, hown, hbel⟩ := hrel
    have hll : (marksI m k ++ l.drop k).length = l.length := by rw [List.length_append, marksI_length, List.length_drop]; omega
    by_cases hlt : k < l.length
    · have ho : wr.ownsRow B 3 1 (.slice A l.length c) l.length ((marksI m k ++ l.drop k).map I) := by
        have h : wr.ownsRow _ _ _ _ _ _ := hown
        rw [hll] at h
        exact h
      obtain ⟨g, rfl, hgB, hgs, hcs, hfs⟩ := own_at ho (by omega)
      have hc : wr.cell? ⟨g, k, none⟩ = some (.int .i64 ((marksI m k ++ l.drop k)[k]'(by rw [hll]; exact hlt))) := by
        rw [hcs _ (by omega)]
        have hlt' : k < (marksI m k ++ l.drop k).length := by rw [hll]; exact hlt
        simp only [List.getElem?_map, List.getElem?_eq_getElem hlt', Option.map_some, I]
      have hf := hfs k
      have HO := Lib.hid ho
      have HB := Lib.hid hbel
      generalize hval : (Value.int .i64 ((marksI m k ++ l.drop k)[k]'(by rw [hll]; exact hlt))) = cv at hc
      clear ho hown hbel hcs hfs hval
      go_wp2
      go_roundw
      case rel =>
        refine ⟨k + 1, by omega, by go_num, by go_num, ?_, grown_set HB.out _⟩
        have h := (HO.out.stored k (I (m + (k : Int)))).1
        rw [over_set_int l m k hlt] at h
        show World.ownsRow _ _ _ _ _ _ _
        rw [show (marksI m (k + 1) ++ l.drop (k + 1)).length = l.length by rw [List.length_append, marksI_length, List.length_drop]; omega]
        exact h
      case measure => simp [intOf]; omega
    · have hk' : k = l.length := by omega
      subst hk'
      rw [List.drop_length, List.append_nil] at hown
      go_wp2
      go_ret
      exact ⟨rfl, hown, hbel⟩

set_option maxHeartbeats 1000000 in
theorem heldIntS_any (B : Nat) (A : Option Addr) (c n : Nat) (m : Int) (w : World) (hm : n ≤ 4000000) (hm0 : 0 ≤ m) (hm1 : m ≤ 100000000) (hr : Rd w B 1 A n ((marksI m n).map I)) :
    Calls Try.prog 30 #[.slice A n c, .int .i64 m] w fun e w' => e = .returned (.int .i64 (m + (n : Int))) ∧ w = w' := by
  have hr2 : Rd w B 1 A (marksI m n).length ((marksI m n).map I) := by rw [marksI_length]; exact hr
  have H := Lib.hid hr2
  clear hr hr2
  go_enter Try.func30, Try.ntmps30
  go_wp2
  go_loopw [1, 5] (fun kv iv wr => ∃ k : Nat, k ≤ n ∧ iv = .int .i64 k ∧ kv = .int .i64 (m + (k : Int)) ∧ w = wr) (fun _ i _ => n - (intOf i).toNat)
  case atStart => exact ⟨0, by omega, rfl, by simp, rfl⟩
  case round =>
    obtain ⟨k, hk, rfl, rfl, rfl⟩ := hrel
    by_cases hlt : k < n
    · obtain ⟨b, off, rfl, hb, hcell⟩ := H.out.int (show k < (marksI m n).length by rw [marksI_length]; exact hlt)
      have e : (marksI m n)[k]'(by rw [marksI_length]; exact hlt) = m + (k : Int) := by simp [marksI]
      rw [e] at hcell
      have ik : (k : Int) < (n : Int) := by omega
      go_wp2
      go_roundw
      case rel => exact ⟨k + 1, by omega, by go_num, by go_num, trivial⟩
      case measure => simp [intOf]; omega
    · have hk' : k = n := by omega
      subst hk'
      go_wp2
      go_ret
      exact ⟨rfl, rfl⟩
set_option maxRecDepth 100000 in
set_option maxHeartbeats 1000000 in
theorem markStepS_any (B : Nat) (A : Option Addr) (c : Nat) (s : List (Int × Int)) (m : Int) (w : World) (hm : s.length ≤ 4000000) (hm0 : 0 ≤ m) (hm1 : m ≤ 100000000) (hown : OwS w B (.slice A s.length c) s) :
    Calls Try.prog 91 #[.slice A s.length c, .int .i64 m] w fun e w' => e = .returned (.int .i64 (m + 2 * (s.length : Int))) ∧ OwS w' B (.slice A s.length c) (marksS m s.length) ∧ w.grownBy w' (Value.slice A s.length c).ownBlock := by
  have HOWN := Lib.hid hown
  clear hown
  go_enter Try.func91, Try.ntmps91
  go_wp2
  go_loopw [1, 5] (fun kv iv wr => ∃ k : Nat, k ≤ s.length ∧ iv = .int .i64 k ∧ kv = .int .i64 (m + 2 * (k : Int)) ∧ OwS wr B (.slice A s.length c) (marksS m k ++ s.drop k) ∧ w.grownBy wr (Value.slice A s.length c).ownBlock) (fun _ i _ => s.length - (intOf i).toNat)
  case atStart => exact ⟨0, by omega, rfl, by simp, HOWN.out, World.grownBy.refl _ _⟩
  case round =>
    obtain ⟨k, hk, rfl, rfl, hown, hbel⟩ := hrel
    have hll : (marksS m k ++ s.drop k).length = s.length := by rw [List.length_append, marksS_length, List.length_drop]; omega
    by_cases hlt : k < s.length
    · have ho : wr.ownsRow B 114 2 (.slice A s.length c) s.length (fl (marksS m k ++ s.drop k)) := by
        have h : wr.ownsRow _ _ _ _ _ _ := hown
        rw [hll] at h
        exact h
      obtain ⟨g, rfl, hgB, hgs, hcs, hfs⟩ := own_at ho (by omega)
      have hlt' : k < (marksS m k ++ s.drop k).length := by rw [hll]; exact hlt
      obtain ⟨v0, hv0⟩ : ∃ v, wr.cell? ⟨g, k * 2, none⟩ = some (.int .i64 v) := ⟨_, by rw [hcs _ (by omega)]; exact (fl_at hlt').1⟩
      obtain ⟨v1, hv1⟩ : ∃ v, wr.cell? ⟨g, k * 2 + 1, none⟩ = some (.int .i64 v) := ⟨_, by rw [hcs _ (by omega)]; exact (fl_at hlt').2⟩
      have hf0 := hfs (k * 2)
      have ho1 := (ho.stored (k * 2) (I (m + 2 * (k : Int)))).1
      have hf1 := ho1.frozenAt (k * 2 + 1)
      have hv2 : (wr.setCell ⟨g, k * 2, none⟩ (I (m + 2 * (k : Int)))).cell? ⟨g, k * 2 + 1, none⟩ = some (.int .i64 v1) := by
        rw [ho1.cellAt _ (by omega), List.getElem?_set_ne (by omega), ← hcs _ (by omega)]
        exact hv1
      have HO := Lib.hid ho1
      have HB := Lib.hid hbel
      clear ho ho1 hown hbel hcs hfs
      go_wp2
      go_roundw
      case rel =>
        refine ⟨k + 1, by omega, by go_num, by go_num, ?_, grown_set (grown_set HB.out _) _⟩
        have h := (HO.out.stored (k * 2 + 1) (I (m + 2 * (k : Int) + 1))).1
        rw [over_set_step s m k hlt] at h
        show World.ownsRow _ _ _ _ _ _ _
        rw [show (marksS m (k + 1) ++ s.drop (k + 1)).length = s.length by rw [List.length_append, marksS_length, List.length_drop]; omega]
        exact h
      case measure => simp [intOf]; omega
    · have hk' : k = s.length := by omega
      subst hk'
      rw [List.drop_length, List.append_nil] at hown
      go_wp2
      go_ret
      exact ⟨rfl, hown, hbel⟩

set_option maxHeartbeats 1000000 in
theorem heldStepS_any (B : Nat) (A : Option Addr) (c n : Nat) (m : Int) (w : World) (hm : n ≤ 4000000) (hm0 : 0 ≤ m) (hm1 : m ≤ 100000000) (hr : Rd w B 2 A n (fl (marksS m n))) :
    Calls Try.prog 99 #[.slice A n c, .int .i64 m] w fun e w' => e = .returned (.int .i64 (m + 2 * (n : Int))) ∧ w = w' := by
  have hr2 : Rd w B 2 A (marksS m n).length (fl (marksS m n)) := by rw [marksS_length]; exact hr
  have H := Lib.hid hr2
  clear hr hr2
  go_enter Try.func99, Try.ntmps99
  go_wp2
  go_loopw [1, 5] (fun kv iv wr => ∃ k : Nat, k ≤ n ∧ iv = .int .i64 k ∧ kv = .int .i64 (m + 2 * (k : Int)) ∧ w = wr) (fun _ i _ => n - (intOf i).toNat)
  case atStart => exact ⟨0, by omega, rfl, by simp, rfl⟩
  case round =>
    obtain ⟨k, hk, rfl, rfl, rfl⟩ := hrel
    by_cases hlt : k < n
    · obtain ⟨b, off, rfl, hb, hc1, hc2⟩ := H.out.stp (show k < (marksS m n).length by rw [marksS_length]; exact hlt)
      have e : (marksS m n)[k]'(by rw [marksS_length]; exact hlt) = (m + 2 * (k : Int), m + 2 * (k : Int) + 1) := by simp [marksS]
      rw [e] at hc1 hc2
      have ik : (k : Int) < (n : Int) := by omega
      go_wp2
      go_roundw
      case rel => exact ⟨k + 1, by omega, by go_num, by go_num, trivial⟩
      case measure => simp [intOf]; omega
    · have hk' : k = n := by omega
      subst hk'
      go_wp2
      go_ret
      exact ⟨rfl, rfl⟩

/-- Only blocks from lo on and before hi may have changed. -/
def Win (lo hi : Nat) (w w' : World) : Prop := Below lo w w' ∧ ∀ k, hi ≤ k → k < w.heap.size → w'.heap[k]? = w.heap[k]?
theorem Win.refl (lo hi : Nat) (w : World) : Win lo hi w w := ⟨Below.refl _ _, fun _ _ _ => rfl⟩
theorem Win.trans {lo hi : Nat} {a b c : World} (h : Win lo hi a b) (h' : Win lo hi b c) : Win lo hi a c :=
  ⟨h.1.trans h'.1, fun k h1 h2 => (h'.2 k h1 (Nat.lt_of_lt_of_le h2 h.1.size)).trans (h.2 k h1 h2)⟩
theorem Win.of_below {lo hi : Nat} {w w' : World} (h : Below w.heap.size w w') (hl : lo ≤ w.heap.size) : Win lo hi w w' := ⟨h.mono hl, fun k _ hk => h.block k hk⟩
theorem Win.of_grown {lo hi : Nat} {w w' : World} {row : Option Nat} (h : w.grownBy w' row) (hl : lo ≤ w.heap.size) (h1 : ∀ k, row = some k → lo ≤ k ∧ k < hi) : Win lo hi w w' :=
  ⟨⟨h.os, h.tape, h.output, h.size, fun k hk => h.block k (by omega) (fun e => by have := h1 k e.symm; omega)⟩, fun k h2 hk => h.block k hk (fun e => by have := h1 k e.symm; omega)⟩
theorem Win.own {lo hi B sz n : Nat} {e : TypeId} {w w' : World} {v : Value} {xs : List Value} (h : Win lo hi w w') (ho : w.ownsRow B e sz v n xs) (hB : hi ≤ B) : w'.ownsRow B e sz v n xs := by
  refine ⟨ho.1, ?_⟩
  rcases ho.2 with h0 | ⟨g, cap, cur, hv, hb, hg, r⟩
  · exact .inl h0
  · exact .inr ⟨g, cap, cur, hv, hb, by rw [h.2 g (by omega) (Array.getElem?_eq_some_iff.1 hg).1]; exact hg, r⟩

set_option maxRecDepth 100000 in
set_option maxHeartbeats 1000000 in
theorem markPlan_any (B hi : Nat) (A1 A2 : Option Addr) (c1 c2 : Nat) (p : Pl) (m : Int) (w : World) (h1 : p.s.length ≤ 1048576) (h2 : p.o.length ≤ 1048576) (hm0 : 0 ≤ m) (hm1 : m ≤ 10) (hB : B ≤ w.heap.size) (hhi : hi ≤ w.heap.size) (hown : OwP w B A1 A2 c1 c2 p)
    (hb1 : ∀ k, (Value.slice A1 p.s.length c1).ownBlock = some k → k < hi) (hb2 : ∀ k, (Value.slice A2 p.o.length c2).ownBlock = some k → k < hi) :
    Calls Try.prog 28 #[.agg #[.int .i64 p.n, .slice A1 p.s.length c1, .slice A2 p.o.length c2], .int .i64 m] w fun e w' =>
      e = .returned (.int .i64 (m + 2 * (p.s.length : Int) + (p.o.length : Int))) ∧ OwS w' B (.slice A1 p.s.length c1) (marksS m p.s.length) ∧ OwI w' B (.slice A2 p.o.length c2) (marksI (m + 2 * (p.s.length : Int)) p.o.length) ∧ Win B hi w w' := by
  have HOWN := Lib.hid hown
  have H1 := Lib.hid hb1
  have H2 := Lib.hid hb2
  clear hown hb1 hb2
  go_enter Try.func28, Try.ntmps28
  go_wp2_with fail
  go_at_call 91
  generalize hw1 : World.alloc w _ = w1
  obtain ⟨x0, x1, x2, xs, xb⟩ := box3 hw1
  clear hw1
  have hown1 := HOWN.out.below xb
  refine (markStepS_any B A1 c1 p.s m w1 (by omega) hm0 (by omega) hown1.1).mono ?_
  rintro e w2 ⟨rfl, ho2, hg2⟩
  have hne := own_ne hown1.2 hown1.1 (by decide)
  have ho2i := World.ownsRow.kept hown1.2 hg2 hne
  have hw2 : Win B hi w1 w2 := Win.of_grown hg2 (by omega) (fun k hk => ⟨(own_block hown1.1 k hk).1, H1.out k hk⟩)
  have y2 : w2.cell? ⟨w.heap.size, 2, none⟩ = some (.slice A2 p.o.length c2) := (World.cell?_of_block (hw2.2 w.heap.size (by omega) (by omega))).trans x2
  have HW2 := Lib.hid ((Win.of_below xb hB).trans hw2)
  have HO2 := Lib.hid ho2
  have HI2 := Lib.hid ho2i
  have hs2 : w.heap.size + 1 ≤ w2.heap.size := by have := hg2.size; omega
  clear x0 x1 x2 xs xb hown1 ho2 hg2 hne ho2i hw2
  go_wp2_with fail
  go_at_call 29
  refine (markIntS_any B A2 c2 p.o (m + 2 * (p.s.length : Int)) w2 (by omega) (by omega) (by omega) HI2.out).mono ?_
  rintro e w3 ⟨rfl, ho3, hg3⟩
  have hne := own_ne HO2.out HI2.out (by decide)
  have ho3s := World.ownsRow.kept HO2.out hg3 hne
  have hw3 : Win B hi w2 w3 := Win.of_grown hg3 (by omega) (fun k hk => ⟨(own_block HI2.out k hk).1, H2.out k hk⟩)
  have HW3 := Lib.hid (HW2.out.trans hw3)
  have HO3 := Lib.hid ho3
  have HS3 := Lib.hid ho3s
  clear ho3 hg3 hne ho3s hw3
  go_wp2
  go_ret
  exact ⟨rfl, HS3.out, HO3.out, HW3.out⟩

set_option maxRecDepth 100000 in
set_option maxHeartbeats 1000000 in
theorem heldPlan_any (B : Nat) (A1 A2 : Option Addr) (c1 c2 n1 n2 : Nat) (z m : Int) (w : World) (h1 : n1 ≤ 1048576) (h2 : n2 ≤ 1048576) (hm0 : 0 ≤ m) (hm1 : m ≤ 10) (hB : B ≤ w.heap.size) (hr1 : Rd w B 2 A1 n1 (fl (marksS m n1))) (hr2 : Rd w B 1 A2 n2 ((marksI (m + 2 * (n1 : Int)) n2).map I)) :
    Calls Try.prog 35 #[.agg #[.int .i64 z, .slice A1 n1 c1, .slice A2 n2 c2], .int .i64 m] w fun e w' =>
      e = .returned (.int .i64 (m + 2 * (n1 : Int) + (n2 : Int))) ∧ Below w.heap.size w w' := by
  have H1 := Lib.hid hr1
  have H2 := Lib.hid hr2
  clear hr1 hr2
  have hn1 : ¬ (m + 2 * (n1 : Int) < 0) := by omega
  have hn2 : ¬ (m + 2 * (n1 : Int) + (n2 : Int) < 0) := by omega
  go_enter Try.func35, Try.ntmps35
  go_wp2_with fail
  go_at_call 99
  generalize hw1 : World.alloc w _ = w1
  obtain ⟨x0, x1, x2, xs, xb⟩ := box3 hw1
  clear hw1
  refine (heldStepS_any B A1 c1 n1 m w1 (by omega) hm0 (by omega) (H1.out.below' xb hB)).mono ?_
  rintro e w2 ⟨rfl, rfl⟩
  have XB := Lib.hid xb
  clear xb
  go_wp2_with fail
  go_at_call 30
  refine (heldIntS_any B A2 c2 n2 (m + 2 * (n1 : Int)) w1 (by omega) (by omega) (by omega) (H2.out.below' XB.out hB)).mono ?_
  rintro e w3 ⟨rfl, rfl⟩
  go_wp2
  go_ret
  exact ⟨rfl, XB.out⟩
end Go.Proofs.Ytbbjgcagkmlngab
/- Small lemmas of the laws' walks. -/
namespace Go.Proofs.Ytbbjgcagkmlngab
open Go.RowKit
theorem eqI_refl (l : List Int) : eqI l l = true := by simp [eqI]
theorem bDrewN {B : Nat} {w w' : World} (h : Below B w w') (n : Nat) : Below B w (w'.drewN n) := h.trans ⟨rfl, rfl, rfl, Nat.le_refl _, fun _ _ => rfl⟩
theorem own_rd_marks {w : World} {B c n : Nat} {A : Option Addr} {m : Int} (h : OwI w B (.slice A n c) (marksI m n)) : Rd w w.heap.size 1 A n ((marksI m n).map I) := by
  have h' : w.ownsRow _ _ _ _ _ _ := h
  rw [marksI_length] at h'
  exact Rd.of_own h'
end Go.Proofs.Ytbbjgcagkmlngab
/- A plan that came in, opened; the frame of a proof of a law over plans. -/
namespace Go.Proofs.Ytbbjgcagkmlngab
open Go.ChangeShapes Go.WideShapes Go.ChangeAt Go.RowKit Go.Deep Go.Joins

theorem spot_none {w : World} {a : Addr} {v : Value} (h : w.cell? a = some v) : a.spot = none := by
  unfold World.cell? at h
  split at h
  · split at h
    · cases h
    · rename_i hs; simpa using hs
  · cases h
theorem addr_form {w : World} {a : Addr} {v : Value} (h : w.cell? a = some v) : a = ⟨a.block, a.off, none⟩ := by
  have := spot_none h
  cases a
  simp_all
theorem add_form (b off j : Nat) : (⟨b, off, none⟩ : Addr).add j = ⟨b, off + j, none⟩ := by
  unfold Addr.add
  split <;> simp_all

section
variable {H : Type} {enc : TypeId × Value → H} {W : World} {base : Nat} {spare : Nat → Bool} {held : Bool}

set_option maxRecDepth 100000 in
/-- A slice of integers that came in. -/
theorem open_ints_rd {fuel : Nat} {x0 : Value} {x : DataW H × List MemPlace} (h : DataW.trod enc Try.prog W base spare held fuel 22 [x0] = some x) :
    ∃ (A : Option Addr) (c : Nat) (l : List Int), x0 = .slice A l.length c ∧ l.length ≤ maxLen ∧ Rd W W.heap.size 1 A l.length (l.map I) := by
  rcases open_ints Try.underlying22 Try.underlying3 (by kernel_rfl) h with ⟨hcs, _⟩ | ⟨a, len, cap, zs, hcs, _, hl, hm, hz, _, hc, _⟩
  · simp only [List.cons.injEq, and_true] at hcs
    exact ⟨none, 0, [], hcs, by simp [maxLen], Rd.nil _ _ _ _⟩
  · simp only [List.cons.injEq, and_true] at hcs
    have hlen : (zs.take len).length = len := by
      rw [List.length_take]
      split at hz <;> omega
    refine ⟨some a, cap, zs.take len, by rw [hlen]; exact hcs, by omega, ?_⟩
    rw [hlen]
    refine ⟨by rw [List.length_map, hlen]; omega, fun hn => ?_⟩
    have hzl : len ≤ zs.length := by split at hz <;> omega
    have h0 := hc 0 (by omega)
    have e0 : a.add 0 = a := by unfold Addr.add; simp
    rw [e0] at h0
    refine ⟨a.block, a.off, by rw [← addr_form h0], World.block_lt_of_cell? _ _ h0, fun j hj => ?_⟩
    have hj' : j < len := by omega
    have h1 := hc j (by omega)
    rw [addr_form h0, add_form] at h1
    have hjz : j < zs.length := by omega
    rw [h1]
    simp [I, hj', hjz]

set_option maxRecDepth 100000 in
/-- A slice of steps that came in. -/
theorem open_steps_rd {fuel : Nat} {x0 : Value} {x : DataW H × List MemPlace} (h : DataW.trod enc Try.prog W base spare held fuel 36 [x0] = some x) :
    ∃ (A : Option Addr) (c : Nat) (s : List (Int × Int)), x0 = .slice A s.length c ∧ s.length ≤ maxLen ∧ Rd W W.heap.size 2 A s.length (fl s) := by
  rcases open_slice Try.underlying36 h with ⟨hcs, _⟩ | ⟨a, len, cap, m, n, D, Pl, hcs, _, hl, hm, hmm, _, hi⟩
  · simp only [List.cons.injEq, and_true] at hcs
    exact ⟨none, 0, [], hcs, by simp [maxLen], Rd.nil _ _ _ _⟩
  · simp only [List.cons.injEq, and_true] at hcs
    have hC : Try.prog.cellsOf 157 = 2 := by kernel_rfl
    have hlm : len ≤ m := by split at hmm <;> omega
    have key : ∀ i, ∃ xy : Int × Int, i < len → W.cell? ((a.add (i * 2)).add 0) = some (.int .i64 xy.1) ∧ W.cell? ((a.add (i * 2)).add 1) = some (.int .i64 xy.2) := by
      intro i
      by_cases hil : i < len
      · obtain ⟨cs', hcells, htr⟩ := hi i (by omega)
        rw [hC] at hcells
        obtain ⟨_, hcl, hat⟩ := World.cells?_some hcells
        obtain ⟨y0, y1, n', _, _, t0, t1⟩ := trod_struct2 Try.underlying157 htr
        match cs', hcl with
        | [k0, k1], _ =>
          obtain ⟨z0, e0, _, _⟩ := DataW.trod_int Try.underlying3 t0
          obtain ⟨z1, e1, _, _⟩ := DataW.trod_int Try.underlying3 t1
          have c1 : Try.prog.cellsOf 3 = 1 := by kernel_rfl
          simp [c1] at e0 e1
          subst e0
          subst e1
          exact ⟨(z0, z1), fun _ => ⟨hat 0 (by omega), hat 1 (by omega)⟩⟩
      · exact ⟨(0, 0), fun h => absurd h hil⟩
    obtain ⟨f, hf⟩ : ∃ f : Nat → Int × Int, ∀ i, i < len → W.cell? ((a.add (i * 2)).add 0) = some (.int .i64 (f i).1) ∧ W.cell? ((a.add (i * 2)).add 1) = some (.int .i64 (f i).2) :=
      ⟨fun i => Classical.choose (key i), fun i => Classical.choose_spec (key i)⟩
    have hlen : ((List.range len).map f).length = len := by simp
    refine ⟨some a, cap, (List.range len).map f, by rw [hlen]; exact hcs, by omega, ?_⟩
    rw [hlen]
    refine ⟨by rw [fl_length, hlen], fun hn => ?_⟩
    have h0 := (hf 0 hn).1
    have e0 : (a.add (0 * 2)).add 0 = a := by unfold Addr.add; simp
    rw [e0] at h0
    refine ⟨a.block, a.off, by rw [← addr_form h0], World.block_lt_of_cell? _ _ h0, fun j hj => ?_⟩
    have hj' : j / 2 < len := by omega
    have hfl := fl_at (s := (List.range len).map f) (k := j / 2) (by simpa using hj')
    have h1 := hf (j / 2) hj'
    rw [addr_form h0, add_form, add_form, add_form] at h1
    have hj2 : j % 2 = 0 ∨ j % 2 = 1 := by omega
    rcases hj2 with hj2 | hj2
    · have ej : j = j / 2 * 2 := by omega
      have := hfl.1
      rw [← ej] at this
      rw [this]
      have h2 := h1.1
      rw [Nat.add_zero, ← ej] at h2
      rw [h2]
      simp [I]
    · have ej : j = j / 2 * 2 + 1 := by omega
      have := hfl.2
      rw [← ej] at this
      rw [this]
      have h2 := h1.2
      rw [Nat.add_assoc, ← ej] at h2
      rw [h2]
      simp [I]

set_option maxRecDepth 100000 in
theorem open_plan {v : Value} {d : DataW H} {p : List MemPlace} {b0 : Nat} {r : Reach} (hv : Value.okWide Try.prog W r b0 38 v) (h : DataW.Trod enc Try.prog W base spare held 38 v d p) :
    ∃ (A1 A2 : Option Addr) (c1 c2 : Nat) (q : Pl), v = .agg #[.int .i64 q.n, .slice A1 q.s.length c1, .slice A2 q.o.length c2] ∧ q.s.length ≤ 9223372036854775807 ∧ q.o.length ≤ 9223372036854775807 ∧ RdP W W.heap.size A1 A2 q := by
  obtain ⟨v0, v1, v2, y0, y1, y2, n, rfl, _, _, t0, t1, t2⟩ := open_agg3 Try.underlying38 (by kernel_rfl) (by kernel_rfl) hv h
  obtain ⟨z, e0, _, _⟩ := DataW.trod_int Try.underlying3 t0
  simp only [List.cons.injEq, and_true] at e0
  obtain ⟨A1, c1, s, e1, l1, r1⟩ := open_steps_rd t1
  obtain ⟨A2, c2, l, e2, l2, r2⟩ := open_ints_rd t2
  subst e0
  subst e1
  subst e2
  exact ⟨A1, A2, c1, c2, ⟨z, s, l⟩, rfl, by unfold maxLen at l1; exact l1, by unfold maxLen at l2; exact l2, r1, r2⟩
end

theorem own : ownKnob Try.prog.godebug = none := by kernel_rfl
theorem laidOut : laidOutB Try.prog = true := by kernel_rfl
end Go.Proofs.Ytbbjgcagkmlngab
/- Small lemmas of the laws' walks, of plans that are answered. -/
namespace Go.Proofs.Ytbbjgcagkmlngab
open Go.ChangeShapes Go.WideShapes Go.ChangeAt Go.RowKit Go.Deep Go.Joins
theorem own_rd_marksS {w : World} {B c n : Nat} {A : Option Addr} {m : Int} (h : OwS w B (.slice A n c) (marksS m n)) : Rd w w.heap.size 2 A n (fl (marksS m n)) := by
  have h' : w.ownsRow _ _ _ _ _ _ := h
  rw [marksS_length] at h'
  exact Rd.of_own h'
set_option maxRecDepth 100000 in
theorem open_list {H : Type} {enc : TypeId × Value → H} {W : World} {base : Nat} {spare : Nat → Bool} {held : Bool} {v : Value} {d : DataW H} {p : List MemPlace} {b0 : Nat} {r : Reach} (hv : Value.okWide Try.prog W r b0 22 v) (h : DataW.Trod enc Try.prog W base spare held 22 v d p) :
    ∃ (A : Option Addr) (c : Nat) (l : List Int), v = .slice A l.length c ∧ l.length ≤ 9223372036854775807 ∧ Rd W W.heap.size 1 A l.length (l.map I) := by
  obtain ⟨A0, n0, c0, rfl⟩ := okWide_slice Try.underlying22 hv
  obtain ⟨fuel, hf⟩ := h
  obtain ⟨A, c, l, e, h1, h2⟩ := open_ints_rd hf
  exact ⟨A, c, l, e, by unfold maxLen at h1; exact h1, h2⟩
end Go.Proofs.Ytbbjgcagkmlngab
/- Small lemmas of the laws over lists. -/
namespace Go.Proofs.Ytbbjgcagkmlngab
open Go.ChangeShapes Go.WideShapes Go.ChangeAt Go.RowKit Go.Deep Go.Joins
theorem OwI.cap {w : World} {B c n : Nat} {A : Option Addr} {l : List Int} (h : OwI w B (.slice A n c) l) : l.length ≤ c := by
  obtain ⟨A', c', e, hc⟩ := own_form h
  simp only [Value.slice.injEq] at e
  obtain ⟨_, _, rfl⟩ := e
  exact hc
/-- Two rows, the one made behind the other, lie apart. -/
theorem own_apart {w0 w : World} {B B' sz sz' n n' : Nat} {e e' : TypeId} {v v' : Value} {xs xs' : List Value} (h : w0.ownsRow B e sz v n xs) (h' : w.ownsRow B' e' sz' v' n' xs') (hB : w0.heap.size ≤ B') : v'.ownBlock = none ∨ v'.ownBlock ≠ v.ownBlock := by
  cases hv : v'.ownBlock with
  | none => exact .inl rfl
  | some k =>
    right
    intro hh
    have h1 := (own_block h' k hv).1
    have h2 := (own_block h k hh.symm).2
    omega
end Go.Proofs.Ytbbjgcagkmlngab
