/- Joined: Region Base Base2 Gr Sa La Sb Sc Ia Ib. -/
import Derived.OrdersHeld
import Derived.Deep.RegionHeld3
import Derived.KernelRfl
import Derived.Test.YtodjnafalbbmjaaProg
import Derived.WalkKit
import Derived.WalkSpells
import Derived.WalkLawsBesides
import Derived.Handy
import Derived.Lib.Hide
import Derived.BigQuiet
import Derived.Deep.QuietTactic
import Derived.Deep.AppendLies
import Derived.Deep.LoopGhost
import Derived.StillTailTactics
import Derived.Deep.DeepFit
import Derived.CellFam
import Derived.Deep.DeepCutAuto
import Derived.Deep.OwnRows
import Derived.Lib.AppendZeros
import Derived.Lib.AppendZerosOnto
import Derived.LoopN
/- A region that draws its order of evaluation, walked once along a tree: what yields its value in whatever world (or in every world of a class S) goes first; what writes comes in the one order that is left, or in each of two. -/
namespace Go.Proofs.Ytodjnafalbbmjaa

/-- Operation j waits, perhaps through others, for operation k. -/
def anc (ops : Array Oper) : Nat → Nat → Nat → Bool
  | 0, _, _ => false
  | f + 1, k, j => match ops[j]? with
    | some oj => oj.after.any fun e => Region.binds .any e && (e.on == k || anc ops f k e.on)
    | none => false

/-- Behind operation j the class S must be shown anew: an operation of SL may come up before or behind it. -/
def needS (ops : Array Oper) (SL : List Nat) (j : Nat) : Bool :=
  SL.any fun i => i != j && !anc ops ops.size i j && !anc ops ops.size j i

def Closed (ops : Array Oper) (listed : Array Bool) : Prop :=
  ∀ j oj, ops[j]? = some oj → listed.getD j false = true → ∀ e ∈ oj.after, Region.binds .any e = true → listed.getD e.on false = true

section
variable {P : Program} {ops : Array Oper} {Q : Exit → Act → World → Prop} {S : World → Prop} {LL SL : List Nat}

theorem anc_listed {listed : Array Bool} (hc : Closed ops listed) : ∀ (f k j : Nat), (∀ oj, ops[j]? = some oj → ∀ e ∈ oj.after, Region.binds .any e = true → listed.getD e.on false = true) →
    anc ops f k j = true → listed.getD k false = true := by
  intro f
  induction f with
  | zero => intro k j _ h; simp [anc] at h
  | succ f ih =>
    intro k j hj h
    unfold anc at h
    cases ho : ops[j]? with
    | none => rw [ho] at h; simp at h
    | some oj =>
      rw [ho] at h
      obtain ⟨e, he, hb⟩ := Array.any_eq_true'.1 h
      simp only [Bool.and_eq_true, Bool.or_eq_true, beq_iff_eq] at hb
      have h1 := hj oj ho e he hb.1
      rcases hb.2 with rfl | h2
      · exact h1
      · exact ih k e.on (fun oj' ho' e' he' hb' => hc _ oj' ho' h1 e' he' hb') h2

theorem not_anc {listed : Array Bool} (hc : Closed ops listed) {i j : Nat} (hi : i ∈ Region.ready .any ops listed) (hj : j ∈ Region.ready .any ops listed) : anc ops ops.size i j = false := by
  cases h : anc ops ops.size i j with
  | false => rfl
  | true =>
    obtain ⟨_, oj, hoj, hall⟩ := mem_ready.1 hj
    have h1 := anc_listed hc ops.size i j (fun oj' ho' => by rw [hoj] at ho'; injection ho' with ho'; subst ho'; exact hall) h
    have h0 := (mem_ready.1 hi).1
    rcases Nat.lt_or_ge i listed.size with hlt | hge
    · simp [hlt] at h0 h1; rw [h0] at h1; cases h1
    · simp [Array.getElem?_eq_none hge] at h1

theorem closed_set {listed : Array Bool} (hc : Closed ops listed) {i : Nat} (hi : i ∈ Region.ready .any ops listed) : Closed ops (listed.setIfInBounds i true) := by
  intro j oj hj hl e he hb
  by_cases hij : i = j
  · subst hij
    obtain ⟨_, o', ho', hall⟩ := mem_ready.1 hi
    rw [hj] at ho'
    injection ho' with ho'
    subst ho'
    exact getD_set_true (hall e he hb)
  · rw [getD_set_ne false hij] at hl
    exact getD_set_true (hc j oj hj hl e he hb)

/-- What is known of the world behind operation i. -/
def kp (ops : Array Oper) (S : World → Prop) (LL SL : List Nat) (i : Nat) (w w' : World) : Prop :=
  if LL.contains i = true then w' = w else (needS ops SL i = true → S w')

def wpAnyK (P : Program) (ops : Array Oper) (Q : Exit → Act → World → Prop) (S : World → Prop) (LL SL : List Nat) : Nat → Array Bool → Act → World → Prop
  | 0, listed, a, w => Region.ready .any ops listed = [] ∧ Q .normal a w
  | fuel + 1, listed, a, w =>
    (Region.ready .any ops listed = [] → Q .normal a w) ∧
    ∀ i ∈ Region.ready .any ops listed, wpOp P ops Q i (fun a' w' => kp ops S LL SL i w w' ∧ wpAnyK P ops Q S LL SL fuel (listed.setIfInBounds i true) a' w') a w

theorem wpAny_of_K : ∀ (fuel : Nat) (listed : Array Bool) (a : Act) (w : World), wpAnyK P ops Q S LL SL fuel listed a w → wpAny P .any ops Q fuel listed a w
  | 0, _, _, _, h => h
  | fuel + 1, _, _, _, h => ⟨h.1, fun i hi => wpOp_mono (fun a' w' h' => wpAny_of_K fuel _ a' w' h'.2) (h.2 i hi)⟩

theorem wpAnyK_first {C : World → Prop} {i : Nat} {oi : Oper} {v : Value} (hi : ops[i]? = some oi) (hsel : ∀ (j : Nat) (o : Oper) cs b, ops[j]? = some o → o.op ≠ .select cs b)
    (hQ : ∀ c a w, Q (.panic c) (a.put oi.dst v) w → Q (.panic c) a w) (hL : LL.contains i = true) (hC : (∀ x, C x) ∨ (i ∈ SL ∧ ∀ x, S x → C x)) :
    ∀ (fuel : Nat) (listed : Array Bool) (a : Act) (w : World), Closed ops listed →
      (∀ j oj, ops[j]? = some oj → j ≠ i → listed.getD j true = false → (∀ e ∈ oj.after, Region.binds .any e = true → e.on ≠ i) → oi.apart ops oj = true) →
      i ∈ Region.ready .any ops listed → YieldsIf P ops C oi v a → C w →
      wpAnyK P ops Q S LL SL fuel (listed.setIfInBounds i true) (a.put oi.dst v) w → wpAnyK P ops Q S LL SL (fuel + 1) listed a w := by
  have hkp : ∀ w, kp ops S LL SL i w w := fun w => by unfold kp; rw [if_pos hL]
  intro fuel
  induction fuel with
  | zero =>
    intro listed a w _ _ hr hy hw H
    refine ⟨fun h => (by rw [h] at hr; cases hr), fun j hj => ?_⟩
    by_cases hji : j = i
    · subst hji; exact hy.wpOp hi hw ⟨hkp w, H⟩
    · have := ready_mono hj hji
      rw [H.1] at this
      cases this
  | succ fuel ih =>
    intro listed a w hcl hfree hr hy hw H
    refine ⟨fun h => (by rw [h] at hr; cases hr), fun j hj => ?_⟩
    by_cases hji : j = i
    · subst hji; exact hy.wpOp hi hw ⟨hkp w, H⟩
    · have h1 := H.2 j (ready_mono hj hji)
      obtain ⟨hjun, oj, hoj, hall⟩ := mem_ready.1 hj
      have hnot : ∀ e ∈ oj.after, Region.binds .any e = true → e.on ≠ i := fun e he hb heq => by
        have h1 := hall e he hb
        have h0 := (mem_ready.1 hr).1
        rw [heq] at h1
        rcases Nat.lt_or_ge i listed.size with h' | h'
        · simp [h'] at h0 h1; rw [h0] at h1; cases h1
        · simp [Array.getElem?_eq_none h'] at h1
      have h2 := wpOp_putIf hoj (hfree j oj hoj hji hjun hnot) (fun cs b => hsel i oi cs b hi) (fun cs b => hsel j oj cs b hoj) hQ hy h1
      refine wpOp_mono (fun a' w' h3 => ⟨h3.2.1, ih (listed.setIfInBounds j true) a' w' (closed_set hcl hj) ?_ (ready_mono hr (Ne.symm hji)) h3.1 ?_ ?_⟩) h2
      · intro k ok hk hki hun hno
        refine hfree k ok hk hki ?_ hno
        by_cases hjk : j = k
        · subst hjk; exact hjun
        · rw [getD_set_ne true hjk] at hun; exact hun
      · rcases hC with hC | ⟨hm, hC⟩
        · exact hC _
        · have hk := h3.2.1
          unfold kp at hk
          split at hk
          · rw [hk]; exact hw
          · refine hC _ (hk ?_)
            unfold needS
            rw [List.any_eq_true]
            refine ⟨i, hm, ?_⟩
            rw [not_anc hcl hr hj, not_anc hcl hj hr]
            simp [Ne.symm hji]
      · rw [Array.setIfInBounds_comm _ _ hji]
        exact h3.2.2
end

/-- The walk's tree: a pure operation, one of the class, one that writes, two that write in either order. -/
inductive Tr where
  | done
  | lp (i : Nat) (t : Tr)
  | ls (i : Nat) (t : Tr)
  | hv (i : Nat) (t : Tr)
  | hv2 (i : Nat) (t : Tr) (j : Nat) (u : Tr)

def okT (ops : Array Oper) (LL SL : List Nat) : Nat → Tr → Array Bool → Bool
  | _, .done, l => (Region.ready .any ops l).isEmpty
  | 0, _, _ => false
  | f + 1, .lp i t, l => LL.contains i && (Region.ready .any ops l).contains i && Region.free .any ops l i && okT ops LL SL f t (l.setIfInBounds i true)
  | f + 1, .ls i t, l => LL.contains i && SL.contains i && (Region.ready .any ops l).contains i && Region.free .any ops l i && okT ops LL SL f t (l.setIfInBounds i true)
  | f + 1, .hv i t, l => !LL.contains i && (Region.ready .any ops l == [i]) && okT ops LL SL f t (l.setIfInBounds i true)
  | f + 1, .hv2 i t j u, l => !LL.contains i && !LL.contains j && (Region.ready .any ops l == [i, j]) && okT ops LL SL f t (l.setIfInBounds i true) && okT ops LL SL f u (l.setIfInBounds j true)

/-- One value in every world of the class C. -/
def vq (P : Program) (o : Oper) (a : Act) (C : World → Prop) (K : Act → Prop) : Prop :=
  ∃ v, (∀ x, C x → (execOp a.eval o).run P x = .ok (.value v) x) ∧ K (a.put o.dst v)

def lq (P : Program) (ops : Array Oper) (C : World → Prop) (i : Nat) (K : Act → Prop) (a : Act) : Prop :=
  ∃ o, ops[i]? = some o ∧ if Region.wanted o (yielded ops a.tmps) = true then vq P o a C K else K (a.put o.dst undef)

def wpT (P : Program) (ops : Array Oper) (Q : Exit → Act → World → Prop) (S : World → Prop) (SL : List Nat) : Tr → Act → World → Prop
  | .done, a, w => Q .normal a w
  | .lp i t, a, w => lq P ops (fun _ => True) i (fun a' => wpT P ops Q S SL t a' w) a
  | .ls i t, a, w => S w ∧ lq P ops S i (fun a' => wpT P ops Q S SL t a' w) a
  | .hv i t, a, w => wpOp P ops Q i (fun a' w' => (needS ops SL i = true → S w') ∧ wpT P ops Q S SL t a' w') a w
  | .hv2 i t j u, a, w => wpOp P ops Q i (fun a' w' => (needS ops SL i = true → S w') ∧ wpT P ops Q S SL t a' w') a w ∧
      wpOp P ops Q j (fun a' w' => (needS ops SL j = true → S w') ∧ wpT P ops Q S SL u a' w') a w

section
variable {P : Program} {ops : Array Oper} {Q : Exit → Act → World → Prop} {S : World → Prop} {LL SL : List Nat}

theorem lq_yields {C : World → Prop} {i : Nat} {K : Act → Prop} {a : Act} (h : lq P ops C i K a) : ∃ o v, ops[i]? = some o ∧ YieldsIf P ops C o v a ∧ K (a.put o.dst v) := by
  obtain ⟨o, ho, h⟩ := h
  split at h
  · rename_i hw
    obtain ⟨v, h1, h2⟩ := h
    exact ⟨o, v, ho, .inl ⟨hw, h1⟩, h2⟩
  · rename_i hw
    exact ⟨o, undef, ho, .inr ⟨by simpa using hw, rfl⟩, h⟩

theorem wpAnyK_of_T (hsel : Region.noSelect ops = true) (hQ : ∀ c d v a w, Q (.panic c) (a.put d v) w → Q (.panic c) a w) :
    ∀ (f : Nat) (t : Tr) (listed : Array Bool) (a : Act) (w : World), Closed ops listed → okT ops LL SL f t listed = true → wpT P ops Q S SL t a w → wpAnyK P ops Q S LL SL f listed a w := by
  intro f
  induction f with
  | zero =>
    intro t listed a w _ hok h
    cases t with
    | done => exact ⟨by simpa [okT] using hok, h⟩
    | _ => simp [okT] at hok
  | succ f ih =>
    intro t listed a w hcl hok h
    cases t with
    | done =>
      have h0 : Region.ready .any ops listed = [] := by simpa [okT] using hok
      exact ⟨fun _ => h, by rw [h0]; simp⟩
    | lp i t =>
      simp only [okT, Bool.and_eq_true] at hok
      obtain ⟨⟨⟨hL, hr⟩, hf⟩, hok⟩ := hok
      have hr' : i ∈ Region.ready .any ops listed := by simpa using hr
      obtain ⟨o, v, ho, hy, hk⟩ := lq_yields h
      exact wpAnyK_first ho (Region.noSelect_spec hsel) (fun c a w => hQ c _ v a w) hL (.inl fun _ => trivial) f listed a w hcl (Region.free_spec ho hf) hr' hy trivial (ih t _ _ _ (closed_set hcl hr') hok hk)
    | ls i t =>
      simp only [okT, Bool.and_eq_true] at hok
      obtain ⟨⟨⟨⟨hL, hS⟩, hr⟩, hf⟩, hok⟩ := hok
      have hr' : i ∈ Region.ready .any ops listed := by simpa using hr
      obtain ⟨hSw, h⟩ := h
      obtain ⟨o, v, ho, hy, hk⟩ := lq_yields h
      exact wpAnyK_first ho (Region.noSelect_spec hsel) (fun c a w => hQ c _ v a w) hL (.inr ⟨by simpa using hS, fun _ h => h⟩) f listed a w hcl (Region.free_spec ho hf) hr' hy hSw (ih t _ _ _ (closed_set hcl hr') hok hk)
    | hv i t =>
      simp only [okT, Bool.and_eq_true, Bool.not_eq_true', beq_iff_eq] at hok
      obtain ⟨⟨hL, hr⟩, hok⟩ := hok
      refine ⟨fun h0 => (by rw [hr] at h0; cases h0), fun j hj => ?_⟩
      have hj' : j = i := by rw [hr] at hj; simpa using hj
      subst hj'
      exact wpOp_mono (fun a' w' h' => ⟨by unfold kp; rw [if_neg (by simp only [hL]; decide)]; exact h'.1, ih t _ _ _ (closed_set hcl hj) hok h'.2⟩) h
    | hv2 i t k u =>
      simp only [okT, Bool.and_eq_true, Bool.not_eq_true', beq_iff_eq] at hok
      obtain ⟨⟨⟨⟨hL, hL2⟩, hr⟩, hok⟩, hok2⟩ := hok
      refine ⟨fun h0 => (by rw [hr] at h0; cases h0), fun j hj => ?_⟩
      have hj' : j = i ∨ j = k := by rw [hr] at hj; simpa using hj
      rcases hj' with rfl | rfl
      · exact wpOp_mono (fun a' w' h' => ⟨by unfold kp; rw [if_neg (by simp only [hL]; decide)]; exact h'.1, ih t _ _ _ (closed_set hcl hj) hok h'.2⟩) h.1
      · exact wpOp_mono (fun a' w' h' => ⟨by unfold kp; rw [if_neg (by simp only [hL2]; decide)]; exact h'.1, ih u _ _ _ (closed_set hcl hj) hok2 h'.2⟩) h.2

theorem closed_none : Closed ops (Array.replicate ops.size false) := by
  intro j oj _ hl
  exfalso
  by_cases h : j < ops.size <;> simp [h] at hl

/-- THE RULE. -/
theorem wp_region_T {id : Nat} {a : Act} {w : World} {l : List Oper} (S : World → Prop) (LL SL : List Nat) (t : Tr) (hm : P.follows .mixedOrders = true)
    (hok : (Region.noSelect l.toArray && okT l.toArray LL SL l.toArray.size t (Array.replicate l.toArray.size false)) = true)
    (h : wpT P l.toArray (NoPanic Q) S SL t a w.drew) : (Code.region id l.toArray true).wp P Q a w := by
  simp only [Bool.and_eq_true] at hok
  exact wp_region_noPanic (wp_region_any hm (wpAny_of_K _ _ _ _ (wpAnyK_of_T hok.1 (fun _ _ _ _ _ h => h) _ t _ a _ closed_none hok.2 h)))

/-- THE RULE where every load comes ahead of all that writes: the class is the world itself. -/
theorem wp_region_Tw {id : Nat} {a : Act} {w : World} {l : List Oper} (LL SL : List Nat) (t : Tr) (hm : P.follows .mixedOrders = true)
    (hok : (Region.noSelect l.toArray && okT l.toArray LL SL l.toArray.size t (Array.replicate l.toArray.size false)) = true)
    (h : wpT P l.toArray (NoPanic Q) (fun x => x = w.drew) SL t a w.drew) : (Code.region id l.toArray true).wp P Q a w := wp_region_T _ LL SL t hm hok h

theorem T_done {a : Act} {w : World} (h : Q .normal a w) : wpT P ops (NoPanic Q) S SL .done a w := h
theorem T_lp {i : Nat} {t : Tr} {o : Oper} {a : Act} {w : World} (ho : ops[i]? = some o)
    (h : ∀ K : Act → Prop, (∀ a, wpT P ops Q S SL t a w → K a) → if Region.wanted o (yielded ops a.tmps) = true then vq P o a (fun _ => True) K else K (a.put o.dst undef)) : wpT P ops Q S SL (.lp i t) a w :=
  ⟨o, ho, h _ fun _ h => h⟩
theorem T_ls {i : Nat} {t : Tr} {o : Oper} {a : Act} {w : World} (ho : ops[i]? = some o) (hS : S w)
    (h : ∀ K : Act → Prop, (∀ a, wpT P ops Q S SL t a w → K a) → if Region.wanted o (yielded ops a.tmps) = true then vq P o a S K else K (a.put o.dst undef)) : wpT P ops Q S SL (.ls i t) a w :=
  ⟨hS, o, ho, h _ fun _ h => h⟩
/-- A load of the class, its value found by the walk. -/
theorem T_ls1 {i : Nat} {t : Tr} {o : Oper} {a : Act} {w : World} {v : Value} (ho : ops[i]? = some o) (hg : o.guard = none) (hS : S w)
    (hv : ∀ x, S x → (execOp a.eval o).run P x = .ok (.value v) x) (h : ∀ K : Act → Prop, (∀ a, wpT P ops Q S SL t a w → K a) → K (a.put o.dst v)) : wpT P ops Q S SL (.ls i t) a w :=
  ⟨hS, o, ho, by rw [if_pos (by simp [Region.wanted, hg])]; exact ⟨v, hv, h _ fun _ h => h⟩⟩
/-- An operation that writes; the class need not be shown behind it. -/
theorem T_hv {i : Nat} {t : Tr} {o : Oper} {a : Act} {w : World} (ho : ops[i]? = some o) (hn : needS ops SL i = false)
    (h : ∀ K : Act → World → Prop, (∀ a w, wpT P ops Q S SL t a w → K a w) → if Region.wanted o (yielded ops a.tmps) = true then o.wp P a w K Q else K (a.put o.dst undef) w) : wpT P ops Q S SL (.hv i t) a w := by
  have h1 := h (fun a' w' => (needS ops SL i = true → S w') ∧ wpT P ops Q S SL t a' w') (fun a' w' h' => ⟨fun hh => (by rw [hn] at hh; cases hh), h'⟩)
  show wpOp P ops Q i _ a w
  unfold wpOp
  simp only [ho]
  split
  · rename_i hw; rw [if_pos hw] at h1; exact .inl h1
  · rename_i hw; rw [if_neg hw] at h1; exact h1
/-- An operation that writes, and behind which the class is shown anew. -/
theorem T_hvS {i : Nat} {t : Tr} {o : Oper} {a : Act} {w : World} (ho : ops[i]? = some o)
    (h : ∀ K : Act → World → Prop, (∀ a w, S w → wpT P ops Q S SL t a w → K a w) → if Region.wanted o (yielded ops a.tmps) = true then o.wp P a w K Q else K (a.put o.dst undef) w) : wpT P ops Q S SL (.hv i t) a w := by
  have h1 := h (fun a' w' => (needS ops SL i = true → S w') ∧ wpT P ops Q S SL t a' w') (fun a' w' hs h' => ⟨fun _ => hs, h'⟩)
  show wpOp P ops Q i _ a w
  unfold wpOp
  simp only [ho]
  split
  · rename_i hw; rw [if_pos hw] at h1; exact .inl h1
  · rename_i hw; rw [if_neg hw] at h1; exact h1
theorem T_hv2 {i j : Nat} {t u : Tr} {a : Act} {w : World} (h1 : wpT P ops Q S SL (.hv i t) a w) (h2 : wpT P ops Q S SL (.hv j u) a w) : wpT P ops Q S SL (.hv2 i t j u) a w := ⟨h1, h2⟩
end
attribute [go_sem] vq
end Go.Proofs.Ytodjnafalbbmjaa
/- Words for memory that all proofs of this seat use: a slice that reads as a list; how it is kept. -/
namespace Go.Proofs.Ytodjnafalbbmjaa
open Go.RowKit

abbrev I (n : Int) : Value := .int .i64 n

/-- A slice with address A and n elements of sz cells each reads as xs; its block lies below B. -/
def Rd (w : World) (B sz : Nat) (A : Option Addr) (n : Nat) (xs : List Value) : Prop :=
  xs.length = n * sz ∧ (0 < n → ∃ b off, A = some ⟨b, off, none⟩ ∧ b < B ∧ ∀ j, j < n * sz → w.cell? ⟨b, off + j, none⟩ = xs[j]?)

section
variable {w w' : World} {B B' sz n : Nat} {A : Option Addr} {xs : List Value}

theorem Rd.keep (h : Rd w B sz A n xs) (hk : ∀ p : Addr, p.block < B → w'.cell? p = w.cell? p) : Rd w' B sz A n xs :=
  ⟨h.1, fun hn => by
    obtain ⟨b, off, e, hb, hc⟩ := h.2 hn
    exact ⟨b, off, e, hb, fun j hj => (hk ⟨b, off + j, none⟩ hb).trans (hc j hj)⟩⟩
theorem Rd.more (h : Rd w B sz A n xs) (hB : B ≤ B') : Rd w B' sz A n xs :=
  ⟨h.1, fun hn => by
    obtain ⟨b, off, e, hb, hc⟩ := h.2 hn
    exact ⟨b, off, e, by omega, hc⟩⟩
theorem Rd.below (h : Rd w B sz A n xs) (hb : Below B w w') : Rd w' B sz A n xs := h.keep fun _ hp => hb.cell hp
theorem Rd.below' {C : Nat} (h : Rd w B sz A n xs) (hb : Below C w w') (hC : B ≤ C) : Rd w' B sz A n xs := h.below (hb.mono hC)
theorem Rd.drewN (h : Rd w B sz A n xs) (k : Nat) : Rd (w.drewN k) B sz A n xs := h
theorem Rd.drew (h : Rd w B sz A n xs) : Rd w.drew B sz A n xs := h
theorem Rd.alloc (h : Rd w B sz A n xs) (hB : B ≤ w.heap.size) (o : Obj) : Rd (w.alloc o) B sz A n xs :=
  h.keep fun p hp => World.cell?_alloc_lt w o p (by omega)
theorem Rd.nil (w : World) (B sz : Nat) (A : Option Addr) : Rd w B sz A 0 [] := ⟨by simp, fun h => absurd h (by omega)⟩
theorem Rd.of_own {base : Nat} {e : TypeId} {c : Nat} (h : w.ownsRow base e sz (.slice A n c) n xs) : Rd w w.heap.size sz A n xs := by
  refine ⟨h.1, fun hn => ?_⟩
  rcases h.2 with ⟨_, h0⟩ | ⟨g, cap, cur, hv, _, hg, _, _, _, ht⟩
  · omega
  · simp only [Value.slice.injEq] at hv
    obtain ⟨rfl, _, rfl⟩ := hv
    refine ⟨g, 0, rfl, (Array.getElem?_eq_some_iff.1 hg).1, fun j hj => ?_⟩
    rw [Nat.zero_add]
    exact h.cellAt j hj

/-- The cell of element k of a slice of integers. -/
theorem Rd.int {l : List Int} (h : Rd w B 1 A l.length (l.map I)) {k : Nat} (hk : k < l.length) :
    ∃ b off, A = some ⟨b, off, none⟩ ∧ b < B ∧ w.cell? ⟨b, off + k, none⟩ = some (.int .i64 (l[k]'hk)) := by
  obtain ⟨b, off, e, hb, hc⟩ := h.2 (by omega)
  refine ⟨b, off, e, hb, ?_⟩
  rw [hc k (by omega)]
  simp [I, hk]
end

/-- The world after some draws. -/
def Dr (w w' : World) : Prop := ∃ n, w' = w.drewN n
theorem Dr.refl (w : World) : Dr w w := ⟨0, rfl⟩
theorem Dr.mk (w : World) (n : Nat) : Dr w (w.drewN n) := ⟨n, rfl⟩
theorem Dr.mk2 (w : World) (n m : Nat) : Dr w ((w.drewN n).drewN m) := ⟨n + m, by rw [World.drewN_drewN]⟩
theorem Dr.below {w w' : World} (h : Dr w w') (B : Nat) : Below B w w' := by
  obtain ⟨n, rfl⟩ := h
  exact ⟨rfl, rfl, rfl, Nat.le_refl _, fun _ _ => rfl⟩

theorem made_at (z : Value) (n k : Nat) (hk : k < n) : (madeCells #[z] n)[k]? = some z := by
  have h := toList_madeCells_one z n
  rw [← Array.getElem?_toList, h]
  simp [hk]

theorem ret_bool {a b : Bool} (h : a = b) : Ending.returned (.bool a) = .returned (.bool b) := by rw [h]
theorem info_int : (Try.prog.info? 3).map (fun i => (i.zero, i.size, i.bytes)) = some (some (.int .i64 0), 1, 8) := by kernel_rfl
theorem info_ints : (Try.prog.info? 22).map (fun i => (i.zero, i.size, i.bytes)) = some (some (.slice none 0 0), 1, 24) := by kernel_rfl
theorem info_step : (Try.prog.info? 68).map (fun i => (i.zero, i.size, i.bytes)) = some (some (.agg #[.int .i64 0, .int .i64 0]), 2, 16) := by kernel_rfl

/-- An own slice of integers. -/
def OwI (w : World) (B : Nat) (v : Value) (l : List Int) : Prop := w.ownsRow B 3 1 v l.length (l.map I)
theorem OwI.nil (w : World) (B : Nat) : OwI w B (.slice none 0 0) [] := World.ownsRow_nil _ _ _ _

theorem OwI.alloc {w : World} {B : Nat} {v : Value} {l : List Int} (h : OwI w B v l) (o : Obj) : OwI (w.alloc o) B v l := World.ownsRow.alloc h o
theorem OwI.drew {w : World} {B : Nat} {v : Value} {l : List Int} (h : OwI w B v l) : OwI w.drew B v l := h
theorem OwI.drewN {w : World} {B : Nat} {v : Value} {l : List Int} (h : OwI w B v l) (n : Nat) : OwI (w.drewN n) B v l := h

theorem below_of_own {w w' : World} {base e sz n : Nat} {v : Value} {xs : List Value} (h : w.ownsRow base e sz v n xs) (hb : base ≤ w.heap.size) (hg : w.grownBy w' v.ownBlock) : Below base w w' :=
  (Below.refl _ _).grown hg hb fun k hk => (h.lt k hk).1

section
variable {ops : Array Oper} {o : Oper} {a : Act} {Q : Exit → Act → World → Prop} {w : World}

/-- append(v, x) of one integer onto an own slice. -/
theorem step_app_int {K : Act → World → Prop} {E : Prop} (hgd : o.guard = none) (s x : Operand)
    (ho : o.op = .call { callee := .builtin .append, args := #[s, x], argTypes := #[22, 22] })
    (B n : Nat) (v : Value) (l : List Int) (hs : a.eval s = v) (hown : OwI w B v l) (hl : l.length = n) (b c : Nat) (u : Int) (hx : a.eval x = .slice (some ⟨b, 0, none⟩) 1 c)
    (hu : w.cell? ⟨b, 0, none⟩ = some (I u)) (hn : n ≤ 4000000) (hB : B ≤ w.heap.size)
    (h : ∀ A cap w', OwI w' B (.slice A (n + 1) cap) (l ++ [u]) → w.grownBy w' v.ownBlock → Below B w w' → K (a.put o.dst (.slice A (n + 1) cap)) w') :
    if Region.wanted o (yielded ops a.tmps) = true then Oper.wp Try.prog o a w K Q else E := by
  subst hl
  obtain ⟨i0, hi, hz0, hz1, hz2⟩ := info_parts info_int
  refine step_append_lies _ hgd s x _ ho B 3 i0 _ 1 8 Try.underlying22 hi hz0 hz1 hz2 rfl (by omega) v l.length (l.map I) hs hown ⟨b, 0, none⟩ 1 c [I u] hx rfl ?_ ?_ (by omega) (by unfold maxLen; omega) (by omega) hB w.heap.size rfl ?_
  · intro j y hj
    match j, hj with
    | 0, hj => simp at hj; subst hj; simpa [Addr.add] using hu
  · intro y hy; simp at hy; subst hy; rfl
  · intro g cap w' hown' hg _ _
    exact h _ cap w' (by simpa [OwI] using hown') hg (below_of_own hown hB hg)
theorem wpList_app_int {rest : List Oper} (hgd : o.guard = none) (s x : Operand)
    (ho : o.op = .call { callee := .builtin .append, args := #[s, x], argTypes := #[22, 22] })
    (B n : Nat) (v : Value) (l : List Int) (hs : a.eval s = v) (hown : OwI w B v l) (hl : l.length = n) (b c : Nat) (u : Int) (hx : a.eval x = .slice (some ⟨b, 0, none⟩) 1 c)
    (hu : w.cell? ⟨b, 0, none⟩ = some (I u)) (hn : n ≤ 4000000) (hB : B ≤ w.heap.size)
    (h : ∀ A cap w', OwI w' B (.slice A (n + 1) cap) (l ++ [u]) → w.grownBy w' v.ownBlock → Below B w w' → wpList Try.prog ops Q rest (a.put o.dst (.slice A (n + 1) cap)) w') :
    wpList Try.prog ops Q (o :: rest) a w :=
  wpList_step fun _ hK => step_app_int hgd s x ho B n v l hs hown hl b c u hx hu hn hB fun A cap w' h1 h2 h3 => hK _ _ (h A cap w' h1 h2 h3)
end

theorem ret_int {k : IntKind} {a b : Int} (h : a = b) : Ending.returned (.int k a) = .returned (.int k b) := by rw [h]
end Go.Proofs.Ytodjnafalbbmjaa
/- Own rows of slices and of steps; plans as values. -/
namespace Go.Proofs.Ytodjnafalbbmjaa
open Go.RowKit

section
variable {w w' : World} {B B' sz n : Nat} {e e' : TypeId} {v v' : Value} {xs xs' : List Value}

theorem own_same (h : w.ownsRow B e sz v n xs) (hk : ∀ k, k < w.heap.size → w'.heap[k]? = w.heap[k]?) : w'.ownsRow B e sz v n xs := by
  refine ⟨h.1, ?_⟩
  rcases h.2 with h0 | ⟨g, cap, cur, hv, hb, hg, r⟩
  · exact .inl h0
  · exact .inr ⟨g, cap, cur, hv, hb, by rw [hk g (Array.getElem?_eq_some_iff.1 hg).1]; exact hg, r⟩
theorem own_below (h : w.ownsRow B e sz v n xs) (hb : Below w.heap.size w w') : w'.ownsRow B e sz v n xs := own_same h hb.block
theorem own_below' {C : Nat} (h : w.ownsRow B e sz v n xs) (hb : Below C w w') (hC : w.heap.size ≤ C) : w'.ownsRow B e sz v n xs := own_below h (hb.mono hC)
theorem own_base (h : w.ownsRow B e sz v n xs) (hB : B' ≤ B) : w.ownsRow B' e sz v n xs := by
  refine ⟨h.1, ?_⟩
  rcases h.2 with h0 | ⟨g, cap, cur, hv, hb, r⟩
  · exact .inl h0
  · exact .inr ⟨g, cap, cur, hv, by omega, r⟩
/-- Rows of different element types lie apart. -/
theorem own_ne {n' : Nat} {sz' : Nat} (h : w.ownsRow B e sz v n xs) (h' : w.ownsRow B' e' sz' v' n' xs') (hne : e ≠ e') : v.ownBlock = none ∨ v.ownBlock ≠ v'.ownBlock := by
  rcases h.2 with ⟨rfl, _⟩ | ⟨g, cap, cur, rfl, _, hg, _⟩
  · exact .inl rfl
  · right
    rcases h'.2 with ⟨rfl, _⟩ | ⟨g', cap', cur', rfl, _, hg', _⟩
    · simp [Value.ownBlock]
    · simp only [Value.ownBlock, ne_eq, Option.some.injEq]
      intro hh
      subst hh
      rw [hg] at hg'
      injection hg' with hg'
      injection hg' with _ ht
      exact hne ht
/-- A store into a block of another type. -/
theorem own_set {g o : Nat} {cs : Array Value} {t : TypeId} (h : w.ownsRow B e sz v n xs) (hg : w.heap[g]? = some (.cells cs t (0, 0))) (ht : t ≠ e) (u : Value) : (w.setCell ⟨g, o, none⟩ u).ownsRow B e sz v n xs := by
  refine ⟨h.1, ?_⟩
  rcases h.2 with h0 | ⟨g', cap, cur, hv, hb, hg', r⟩
  · exact .inl h0
  · refine .inr ⟨g', cap, cur, hv, hb, ?_, r⟩
    rw [Below.heap_setCell _ _ _ _ (fun hh => by
      simp only at hh
      subst hh
      rw [hg] at hg'
      injection hg' with hg'
      injection hg' with _ hh
      exact ht hh)]
    exact hg'
theorem own_ne_blk {g : Nat} {cs : Array Value} {t : TypeId} (h : w.ownsRow B e sz v n xs) (hg : w.heap[g]? = some (.cells cs t (0, 0))) (ht : t ≠ e) : some g ≠ v.ownBlock := by
  rcases h.2 with ⟨rfl, _⟩ | ⟨g', cap, cur, rfl, _, hg', _⟩
  · simp [Value.ownBlock]
  · simp only [Value.ownBlock, ne_eq, Option.some.injEq]
    intro hh
    subst hh
    rw [hg] at hg'
    injection hg' with hg'
    injection hg' with _ hh
    exact ht hh
theorem grown_set {a : World} {g o : Nat} (h : a.grownBy w (some g)) (u : Value) : a.grownBy (w.setCell ⟨g, o, none⟩ u) (some g) :=
  ⟨h.os, h.tape, h.output, by simpa [World.setCell] using h.size, fun i hi hne => (Below.heap_setCell w ⟨g, o, none⟩ u i (fun e => hne (by rw [e]))).trans (h.block i hi hne)⟩
theorem own_form (h : w.ownsRow B e sz v n xs) : ∃ A c, v = .slice A n c ∧ n ≤ c := by
  rcases h.2 with ⟨rfl, rfl⟩ | ⟨g, cap, cur, rfl, _, _, hc, _⟩
  · exact ⟨_, _, rfl, Nat.le_refl _⟩
  · exact ⟨_, _, rfl, hc⟩
theorem own_block (h : w.ownsRow B e sz v n xs) : ∀ k, v.ownBlock = some k → B ≤ k ∧ k < w.heap.size := h.lt
/-- Of an own slice with elements: its block, its cells. -/
theorem own_at {A : Option Addr} {c : Nat} (h : w.ownsRow B e sz (.slice A n c) n xs) (hn : 0 < n) :
    ∃ g, A = some ⟨g, 0, none⟩ ∧ B ≤ g ∧ g < w.heap.size ∧ (∀ j, j < n * sz → w.cell? ⟨g, j, none⟩ = xs[j]?) ∧ ∀ j, w.frozen? ⟨g, j, none⟩ = false := by
  rcases h.2 with ⟨_, h0⟩ | ⟨g, cap, cur, hv, hb, hg, _⟩
  · omega
  · simp only [Value.slice.injEq] at hv
    obtain ⟨rfl, _, rfl⟩ := hv
    exact ⟨g, rfl, hb, (Array.getElem?_eq_some_iff.1 hg).1, fun j hj => h.cellAt j hj, fun j => h.frozenAt j⟩
end

theorem OwI.below {w w' : World} {B : Nat} {v : Value} {l : List Int} (h : OwI w B v l) (hb : Below w.heap.size w w') : OwI w' B v l := own_below h hb
theorem OwI.base {w : World} {B B' : Nat} {v : Value} {l : List Int} (h : OwI w B v l) (hB : B' ≤ B) : OwI w B' v l := own_base h hB
theorem OwI.rd {w : World} {B : Nat} {A : Option Addr} {c : Nat} {l : List Int} (h : OwI w B (.slice A l.length c) l) : Rd w w.heap.size 1 A l.length (l.map I) := Rd.of_own h

section
variable {ops : Array Oper} {o : Oper} {a : Act} {Q : Exit → Act → World → Prop} {w : World} {T e : TypeId} {z : Value} {bts : Nat}

/-- append(v, x): one element of one cell onto an own slice. -/
theorem step_app1 {K : Act → World → Prop} {E : Prop} (ht : Try.prog.underlying T = some (.slice e)) (hinf : (Try.prog.info? e).map (fun i => (i.zero, i.size, i.bytes)) = some (some z, 1, bts)) (hz : z.cells.size = 1) (hb : bts ≤ 64)
    (hgd : o.guard = none) (s x : Operand) (ho : o.op = .call { callee := .builtin .append, args := #[s, x], argTypes := #[T, T] })
    (B n : Nat) (v : Value) (xs : List Value) (hs : a.eval s = v) (hown : w.ownsRow B e 1 v n xs) (b c : Nat) (u : Value) (hx : a.eval x = .slice (some ⟨b, 0, none⟩) 1 c)
    (hu : w.cell? ⟨b, 0, none⟩ = some u) (h1 : u.oneCell' = true) (hn : n ≤ 4000000) (hB : B ≤ w.heap.size)
    (h : ∀ A cap w', w'.ownsRow B e 1 (.slice A (n + 1) cap) (n + 1) (xs ++ [u]) → w.grownBy w' v.ownBlock → Below B w w' → K (a.put o.dst (.slice A (n + 1) cap)) w') :
    if Region.wanted o (yielded ops a.tmps) = true then Oper.wp Try.prog o a w K Q else E := by
  obtain ⟨i0, hi, hz0, hz1, hz2⟩ := info_parts hinf
  refine step_append_lies _ hgd s x _ ho B e i0 z 1 bts ht hi hz0 hz1 hz2 hz (by omega) v n xs hs hown ⟨b, 0, none⟩ 1 c [u] hx rfl ?_ ?_ (by omega) (by unfold maxLen; omega) (by
    have : (n + 1) * bts ≤ 4000001 * 64 := Nat.mul_le_mul (by omega) hb
    omega) hB w.heap.size rfl ?_
  · intro j y hj
    match j, hj with
    | 0, hj => simp at hj; subst hj; simpa [Addr.add] using hu
  · intro y hy; simp at hy; subst hy; exact h1
  · intro g cap w' hown' hg _ _
    exact h _ cap w' hown' hg (below_of_own hown hB hg)
/-- append(v, x): one element of two cells. -/
theorem step_app2 {K : Act → World → Prop} {E : Prop} (ht : Try.prog.underlying T = some (.slice e)) (hinf : (Try.prog.info? e).map (fun i => (i.zero, i.size, i.bytes)) = some (some z, 2, bts)) (hz : z.cells.size = 2) (hb : bts ≤ 64)
    (hgd : o.guard = none) (s x : Operand) (ho : o.op = .call { callee := .builtin .append, args := #[s, x], argTypes := #[T, T] })
    (B n : Nat) (v : Value) (xs : List Value) (hs : a.eval s = v) (hown : w.ownsRow B e 2 v n xs) (b c : Nat) (u u' : Value) (hx : a.eval x = .slice (some ⟨b, 0, none⟩) 1 c)
    (hu : w.cell? ⟨b, 0, none⟩ = some u) (hu' : w.cell? ⟨b, 1, none⟩ = some u') (h1 : u.oneCell' = true) (h1' : u'.oneCell' = true) (hn : n ≤ 4000000) (hB : B ≤ w.heap.size)
    (h : ∀ A cap w', w'.ownsRow B e 2 (.slice A (n + 1) cap) (n + 1) (xs ++ [u, u']) → w.grownBy w' v.ownBlock → Below B w w' → K (a.put o.dst (.slice A (n + 1) cap)) w') :
    if Region.wanted o (yielded ops a.tmps) = true then Oper.wp Try.prog o a w K Q else E := by
  obtain ⟨i0, hi, hz0, hz1, hz2⟩ := info_parts hinf
  refine step_append_lies _ hgd s x _ ho B e i0 z 2 bts ht hi hz0 hz1 hz2 hz (by omega) v n xs hs hown ⟨b, 0, none⟩ 1 c [u, u'] hx rfl ?_ ?_ (by omega) (by unfold maxLen; omega) (by
    have : (n + 1) * bts ≤ 4000001 * 64 := Nat.mul_le_mul (by omega) hb
    omega) hB w.heap.size rfl ?_
  · intro j y hj
    match j, hj with
    | 0, hj => simp at hj; subst hj; simpa [Addr.add] using hu
    | 1, hj => simp at hj; subst hj; simpa [Addr.add] using hu'
  · intro y hy; simp at hy; rcases hy with rfl | rfl <;> assumption
  · intro g cap w' hown' hg _ _
    exact h _ cap w' hown' hg (below_of_own hown hB hg)
/-- append(v, x): one element of sz cells. -/
theorem step_appN {K : Act → World → Prop} {E : Prop} {sz : Nat} (ht : Try.prog.underlying T = some (.slice e)) (hinf : (Try.prog.info? e).map (fun i => (i.zero, i.size, i.bytes)) = some (some z, sz, bts)) (hz : z.cells.size = sz) (hs0 : 0 < sz) (hb : bts ≤ 64)
    (hgd : o.guard = none) (s x : Operand) (ho : o.op = .call { callee := .builtin .append, args := #[s, x], argTypes := #[T, T] })
    (B n : Nat) (v : Value) (xs : List Value) (hs : a.eval s = v) (hown : w.ownsRow B e sz v n xs) (b c : Nat) (news : List Value) (hx : a.eval x = .slice (some ⟨b, 0, none⟩) 1 c)
    (hl : news.length = sz) (hu : ∀ j, j < sz → w.cell? ⟨b, j, none⟩ = news[j]?) (h1 : ∀ u ∈ news, u.oneCell' = true) (hn : n ≤ 4000000) (hB : B ≤ w.heap.size)
    (h : ∀ A cap w', w'.ownsRow B e sz (.slice A (n + 1) cap) (n + 1) (xs ++ news) → w.grownBy w' v.ownBlock → Below B w w' → K (a.put o.dst (.slice A (n + 1) cap)) w') :
    if Region.wanted o (yielded ops a.tmps) = true then Oper.wp Try.prog o a w K Q else E := by
  obtain ⟨i0, hi, hz0, hz1, hz2⟩ := info_parts hinf
  refine step_append_lies _ hgd s x _ ho B e i0 z sz bts ht hi hz0 hz1 hz2 hz hs0 v n xs hs hown ⟨b, 0, none⟩ 1 c news hx (by rw [hl, Nat.one_mul]) ?_ h1 (by omega) (by unfold maxLen; omega) (by
    have : (n + 1) * bts ≤ 4000001 * 64 := Nat.mul_le_mul (by omega) hb
    omega) hB w.heap.size rfl ?_
  · intro j y hj
    have hlt : j < sz := by rw [← hl]; exact (List.getElem?_eq_some_iff.1 hj).1
    have e0 : (⟨b, 0, none⟩ : Addr).add j = ⟨b, j, none⟩ := by unfold Addr.add; split <;> simp_all
    rw [e0, hu j hlt, hj]
  · intro g cap w' hown' hg _ _
    exact h _ cap w' hown' hg (below_of_own hown hB hg)
/-- The same at the list of a plain region. -/
theorem list_step {rest : List Oper} (h : ∀ K : Act → World → Prop, (∀ a w, wpList Try.prog ops Q rest a w → K a w) →
      if Region.wanted o (yielded ops a.tmps) = true then o.wp Try.prog a w K Q else K (a.put o.dst undef) w) : wpList Try.prog ops Q (o :: rest) a w := wpList_step h
end

/-- An own slice of own slices of integers. -/
def OwR (w : World) (B : Nat) (v : Value) (rows : List (List Int)) : Prop :=
  ∃ vs, w.ownsRow B 22 1 v rows.length vs ∧ vs.length = rows.length ∧ ∀ i (h : i < rows.length), ∃ A c, vs[i]? = some (.slice A (rows[i]).length c) ∧ OwI w B (.slice A (rows[i]).length c) rows[i]

section
variable {w w' : World} {B B' : Nat} {v : Value} {rows : List (List Int)} {row : List Int}
theorem OwR.nil (w : World) (B : Nat) : OwR w B (.slice none 0 0) [] := ⟨[], World.ownsRow_nil _ _ _ _, rfl, fun i h => absurd h (by simp)⟩
theorem OwR.same (h : OwR w B v rows) (hk : ∀ k, k < w.heap.size → w'.heap[k]? = w.heap[k]?) : OwR w' B v rows := by
  obtain ⟨vs, h1, h2, h3⟩ := h
  exact ⟨vs, own_same h1 hk, h2, fun i hi => let ⟨A, c, e, ho⟩ := h3 i hi; ⟨A, c, e, own_same ho hk⟩⟩
theorem OwR.below (h : OwR w B v rows) (hb : Below w.heap.size w w') : OwR w' B v rows := h.same hb.block
theorem OwR.alloc (h : OwR w B v rows) (o : Obj) : OwR (w.alloc o) B v rows := h.same fun k hk => Below.heap_alloc w o k hk
theorem OwR.drew (h : OwR w B v rows) : OwR w.drew B v rows := h
theorem OwR.base (h : OwR w B v rows) (hB : B' ≤ B) : OwR w B' v rows := by
  obtain ⟨vs, h1, h2, h3⟩ := h
  exact ⟨vs, own_base h1 hB, h2, fun i hi => let ⟨A, c, e, ho⟩ := h3 i hi; ⟨A, c, e, own_base ho hB⟩⟩
theorem OwR.own (h : OwR w B v rows) : ∃ vs, w.ownsRow B 22 1 v rows.length vs := let ⟨vs, h1, _⟩ := h; ⟨vs, h1⟩
/-- Behind an append of a row. -/
theorem OwR.app {A A' : Option Addr} {c c' n m : Nat} {vs : List Value} (hrn : rows.length = n) (hm : row.length = m) (h1 : w.ownsRow B 22 1 v n vs) (h2 : vs.length = n)
    (h3 : ∀ i (h : i < rows.length), ∃ A c, vs[i]? = some (.slice A (rows[i]).length c) ∧ OwI w B (.slice A (rows[i]).length c) rows[i])
    (hr : OwI w B (.slice A m c) row) (hg : w.grownBy w' v.ownBlock)
    (hn : w'.ownsRow B 22 1 (.slice A' (n + 1) c') (n + 1) (vs ++ [.slice A m c])) : OwR w' B (.slice A' (n + 1) c') (rows ++ [row]) := by
  subst hrn
  subst hm
  refine ⟨vs ++ [.slice A row.length c], by simpa using hn, by simp [h2], fun i hi => ?_⟩
  have hlt : i ≤ rows.length := by simp at hi; omega
  rcases Nat.lt_or_eq_of_le hlt with hlt | rfl
  · obtain ⟨A0, c0, e0, ho0⟩ := h3 i hlt
    refine ⟨A0, c0, ?_, ?_⟩
    · rw [List.getElem?_append_left (by omega), e0, List.getElem_append_left hlt]
    · rw [List.getElem_append_left hlt]
      exact World.ownsRow.kept ho0 hg (own_ne ho0 h1 (by decide))
  · refine ⟨A, c, ?_, ?_⟩
    · rw [List.getElem?_append_right (by omega), h2]
      simp
    · simp only [List.getElem_concat_length]
      exact World.ownsRow.kept hr hg (own_ne hr h1 (by decide))
/-- Row i: its slice value's cell, and what it owns. -/
theorem OwR.at_ {A : Option Addr} {c : Nat} (h : OwR w B (.slice A rows.length c) rows) {i : Nat} (hi : i < rows.length) :
    ∃ g A1 c1, A = some ⟨g, 0, none⟩ ∧ g < w.heap.size ∧ w.cell? ⟨g, i, none⟩ = some (.slice A1 (rows[i]).length c1) ∧ OwI w B (.slice A1 (rows[i]).length c1) rows[i] := by
  obtain ⟨vs, h1, h2, h3⟩ := h
  obtain ⟨g, rfl, _, hg, hc, _⟩ := own_at h1 (by omega)
  obtain ⟨A1, c1, e1, ho⟩ := h3 i hi
  exact ⟨g, A1, c1, rfl, hg, by rw [hc i (by omega), e1], ho⟩
end

/-- A plan as data. -/
structure Pl where
  n : Int
  s : List (Int × Int)
  o : List Int

def fl (s : List (Int × Int)) : List Value := s.flatMap fun p => [I p.1, I p.2]
theorem fl_length (s : List (Int × Int)) : (fl s).length = s.length * 2 := by
  induction s with
  | nil => rfl
  | cons p s ih => simp [fl] at ih ⊢; omega
theorem fl_at {s : List (Int × Int)} {k : Nat} (hk : k < s.length) : (fl s)[k * 2]? = some (I s[k].1) ∧ (fl s)[k * 2 + 1]? = some (I s[k].2) := by
  induction s generalizing k with
  | nil => simp at hk
  | cons p s ih =>
    cases k with
    | zero => exact ⟨rfl, rfl⟩
    | succ k =>
      have := ih (k := k) (by simpa using hk)
      have e : fl (p :: s) = I p.1 :: I p.2 :: fl s := rfl
      rw [e]
      refine ⟨?_, ?_⟩
      · rw [show (k + 1) * 2 = k * 2 + 1 + 1 from by omega]; simpa using this.1
      · rw [show (k + 1) * 2 + 1 = k * 2 + 1 + 1 + 1 from by omega]; simpa using this.2
theorem fl_snoc (s : List (Int × Int)) (p : Int × Int) : fl (s ++ [p]) = fl s ++ [I p.1, I p.2] := by simp [fl]

/-- The two cells of step k. -/
theorem Rd.stp {w : World} {B : Nat} {A : Option Addr} {s : List (Int × Int)} (h : Rd w B 2 A s.length (fl s)) {k : Nat} (hk : k < s.length) :
    ∃ b off, A = some ⟨b, off, none⟩ ∧ b < B ∧ w.cell? ⟨b, off + k * 2, none⟩ = some (.int .i64 (s[k]'hk).1) ∧ w.cell? ⟨b, off + k * 2 + 1, none⟩ = some (.int .i64 (s[k]'hk).2) := by
  obtain ⟨b, off, e, hb, hc⟩ := h.2 (by omega)
  refine ⟨b, off, e, hb, ?_, ?_⟩
  · rw [hc _ (by omega), (fl_at hk).1]
  · rw [Nat.add_assoc, hc _ (by omega), (fl_at hk).2]

/-- What the world must hold for a plan's value to read as p. -/
def RdP (w : World) (B : Nat) (A1 A2 : Option Addr) (p : Pl) : Prop := Rd w B 2 A1 p.s.length (fl p.s) ∧ Rd w B 1 A2 p.o.length (p.o.map I)
def plV (A1 A2 : Option Addr) (c1 c2 : Nat) (p : Pl) : Value := .agg #[.int .i64 p.n, .slice A1 p.s.length c1, .slice A2 p.o.length c2]
section
variable {w w' : World} {B B' : Nat} {A1 A2 : Option Addr} {p : Pl}
theorem RdP.below (h : RdP w B A1 A2 p) (hb : Below B w w') : RdP w' B A1 A2 p := ⟨h.1.below hb, h.2.below hb⟩
theorem RdP.below' {C : Nat} (h : RdP w B A1 A2 p) (hb : Below C w w') (hC : B ≤ C) : RdP w' B A1 A2 p := h.below (hb.mono hC)
theorem RdP.more (h : RdP w B A1 A2 p) (hB : B ≤ B') : RdP w B' A1 A2 p := ⟨h.1.more hB, h.2.more hB⟩
theorem RdP.alloc (h : RdP w B A1 A2 p) (hB : B ≤ w.heap.size) (o : Obj) : RdP (w.alloc o) B A1 A2 p := ⟨h.1.alloc hB o, h.2.alloc hB o⟩
theorem RdP.drew (h : RdP w B A1 A2 p) : RdP w.drew B A1 A2 p := h
theorem RdP.drewN (h : RdP w B A1 A2 p) (k : Nat) : RdP (w.drewN k) B A1 A2 p := h
end

/-- A cell that is there is there behind a new block. -/
theorem cell_kept {w : World} {p : Addr} {v : Value} (h : w.cell? p = some v) : ∀ o, (w.alloc o).cell? p = some v :=
  fun o => (World.cell?_alloc_lt w o p (World.block_lt_of_cell? w _ h)).trans h
/-- A cell that is there reads what is stored into it. -/
theorem cell_set_same {w : World} {p : Addr} {u : Value} (h : w.cell? p = some u) (v : Value) : (w.setCell p v).cell? p = some v := by
  unfold World.cell? at h
  cases hb : w.heap[p.block]? with
  | none => rw [hb] at h; simp at h
  | some o =>
    rw [hb] at h
    cases o with
    | cells c t fr =>
      simp only at h
      split at h
      · cases h
      · rename_i hs
        have hlt : p.off < c.size := (Array.getElem?_eq_some_iff.1 h).1
        unfold World.cell? World.setCell
        simp [Array.getElem?_modify, hb, hs, hlt]
    | _ => simp at h
theorem ret_slice {A : Option Addr} {n m c : Nat} (h : n = m) : Ending.returned (.slice A n c) = .returned (.slice A m c) := by rw [h]
/-- Four stores into a block of four cells. -/
theorem set4 {w w0 : World} {g B C sz n : Nat} {t e : TypeId} {v a b c d a' b' c' d' : Value} {xs : List Value} (h : w.heap[g]? = some (.cells #[a, b, c, d] t (0, 0))) (ho : w.ownsRow B e sz v n xs) (ht : t ≠ e) (hb : Below C w0 w) (hC : C ≤ g) :
    ((((w.setCell ⟨g, 0, none⟩ a').setCell ⟨g, 1, none⟩ b').setCell ⟨g, 2, none⟩ c').setCell ⟨g, 3, none⟩ d').heap[g]? = some (.cells #[a', b', c', d'] t (0, 0)) ∧
    ((((w.setCell ⟨g, 0, none⟩ a').setCell ⟨g, 1, none⟩ b').setCell ⟨g, 2, none⟩ c').setCell ⟨g, 3, none⟩ d').ownsRow B e sz v n xs ∧
    Below C w0 ((((w.setCell ⟨g, 0, none⟩ a').setCell ⟨g, 1, none⟩ b').setCell ⟨g, 2, none⟩ c').setCell ⟨g, 3, none⟩ d') := by
  have h1 := heap_setCell_same w g 0 _ t a' h
  have o1 := own_set (o := 0) ho h ht a'
  have h2 := heap_setCell_same _ g 1 _ t b' h1
  have o2 := own_set (o := 1) o1 h1 ht b'
  have h3 := heap_setCell_same _ g 2 _ t c' h2
  have o3 := own_set (o := 2) o2 h2 ht c'
  have h4 := heap_setCell_same _ g 3 _ t d' h3
  have o4 := own_set (o := 3) o3 h3 ht d'
  refine ⟨?_, o4, (((hb.setCell hC _).setCell hC _).setCell hC _).setCell hC _⟩
  rw [h4]
  rfl
theorem box2 {w w1 : World} {a b : Value} {t : TypeId} (h : w.alloc (.cells #[a, b] t) = w1) :
    w1.cell? ⟨w.heap.size, 0, none⟩ = some a ∧ w1.cell? ⟨w.heap.size, 1, none⟩ = some b ∧ w1.heap.size = w.heap.size + 1 ∧ Below w.heap.size w w1 := by
  subst h
  refine ⟨?_, ?_, by simp, (Below.refl _ _).alloc (Nat.le_refl _) _⟩ <;> (rw [World.cell?_alloc_at _ _ _ _ rfl]; rfl)
theorem box3 {w w1 : World} {a b c : Value} {t : TypeId} (h : w.alloc (.cells #[a, b, c] t) = w1) :
    w1.cell? ⟨w.heap.size, 0, none⟩ = some a ∧ w1.cell? ⟨w.heap.size, 1, none⟩ = some b ∧ w1.cell? ⟨w.heap.size, 2, none⟩ = some c ∧ w1.heap.size = w.heap.size + 1 ∧ Below w.heap.size w w1 := by
  subst h
  refine ⟨?_, ?_, ?_, by simp, (Below.refl _ _).alloc (Nat.le_refl _) _⟩ <;> (rw [World.cell?_alloc_at _ _ _ _ rfl]; rfl)
end Go.Proofs.Ytodjnafalbbmjaa
/- A new row with room: the library's slices.Grow at the nil slice. -/
namespace Go.Proofs.Ytodjnafalbbmjaa
open Go.RowKit

set_option maxRecDepth 100000 in
set_option maxHeartbeats 1000000 in
theorem growS_any (n : Nat) (w : World) (hn : n ≤ 1000000) :
    Calls Try.prog 142 #[.slice none 0 0, .int .i64 n] w fun e w' => ∃ A c, e = .returned (.slice A 0 c) ∧ w'.ownsRow w.heap.size 68 2 (.slice A 0 c) 0 [] ∧ Below w.heap.size w w' := by
  by_cases h0 : n = 0
  · subst h0
    go_enter Try.func142, Try.ntmps142
    go_wp2
    go_ret
    exact ⟨none, 0, rfl, World.ownsRow_nil _ _ _ _, Below.refl _ _⟩
  · obtain ⟨i0, hi, hz0, hz1, hz2⟩ := info_parts info_step
    have hap := fun W ty => Lib.run_append_nil_zeros (P := Try.prog) W 31 3 ty 68 i0 _ .i64 .i64 Try.underlying31 Try.underlying3 hi hz0 n (by omega) (by rw [hz1]; omega) (by omega) (by rw [hz2]; omega)
    have HAP := Lib.hid hap
    clear hap
    have hpos : (n : Int) > 0 := by omega
    have hneg : ¬ ((n : Int) < 0) := by omega
    go_enter Try.func142, Try.ntmps142
    go_wp2_with (at_builtin; refine Lib.wpList_append_run _ rfl _ _ _ _ rfl _ _ rfl rfl _ _ (HAP.out _ _) ?_)
    all_goals go_ret
    have hG := grownCap_ge w n 0 68
    have hM := grownCap_le_maxLen w n 0 68 (by unfold maxLen; omega)
    refine ⟨some ⟨w.heap.size, 0, none⟩, grownCap w n 0 68, rfl, ?_, ((Below.refl _ _).alloc (Nat.le_refl _) _).drew⟩
    exact World.ownsRow_made (base := w.heap.size) (size := 2) w _ _ (Nat.le_refl _) hM (by rw [Array.size_append, size_zeroCells, size_zeroCells]; simp; omega)
end Go.Proofs.Ytodjnafalbbmjaa
/- Contracts of the small functions of the model. -/
namespace Go.Proofs.Ytodjnafalbbmjaa
open Go.RowKit

def inB (n lo hi : Int) : Bool := decide (lo ≤ n) && decide (n ≤ hi)
def hasI (l : List Int) (n : Int) : Bool := l.contains n
def allB (l : List Int) (lo hi : Int) : Bool := l.all fun n => inB n lo hi

theorem hasI_take {l : List Int} {n : Int} {k : Nat} (hk : k < l.length) (h : hasI (l.take k) n = false) : hasI (l.take (k + 1)) n = (l[k] == n) := by
  unfold hasI at *
  rw [List.take_succ_eq_append_getElem hk]
  simp only [List.contains_append, h, Bool.false_or, List.contains_cons, List.contains_nil, Bool.or_false]
  exact Bool.beq_comm
theorem hasI_hit {l : List Int} {n : Int} {k : Nat} (hk : k < l.length) (h : (l[k] == n) = true) : hasI l n = true := by
  unfold hasI
  simp at h ⊢
  exact h ▸ List.getElem_mem hk
theorem hasI_end {l : List Int} {n : Int} {k : Nat} (hk : ¬ k < l.length) (h : hasI (l.take k) n = false) : hasI l n = false := by
  rwa [List.take_of_length_le (by omega)] at h
theorem allB_take {l : List Int} {lo hi : Int} {k : Nat} (hk : k < l.length) (h : allB (l.take k) lo hi = true) : allB (l.take (k + 1)) lo hi = inB l[k] lo hi := by
  unfold allB at *
  rw [List.take_succ_eq_append_getElem hk, List.all_append, h]
  simp
theorem allB_miss {l : List Int} {lo hi : Int} {k : Nat} (hk : k < l.length) (h : inB l[k] lo hi = false) : allB l lo hi = false := by
  unfold allB
  rw [List.all_eq_false]
  exact ⟨_, List.getElem_mem hk, by simp [h]⟩
theorem allB_end {l : List Int} {lo hi : Int} {k : Nat} (hk : ¬ k < l.length) (h : allB (l.take k) lo hi = true) : allB l lo hi = true := by
  rwa [List.take_of_length_le (by omega)] at h

set_option maxHeartbeats 400000 in
theorem l1In_any (n lo hi : Int) (w : World) :
    Calls Try.prog 40 #[.int .i64 n, .int .i64 lo, .int .i64 hi] w fun e w' => e = .returned (.bool (inB n lo hi)) ∧ w = w' := by
  by_cases h1 : lo ≤ n <;> by_cases h2 : n ≤ hi
  all_goals
    go_enter Try.func40, Try.ntmps40
    go_wp2
    go_ret
    exact ⟨ret_bool (by simp [inB, h1, h2]), rfl⟩

set_option maxHeartbeats 400000 in
theorem l1Has_any (B : Nat) (A : Option Addr) (c : Nat) (l : List Int) (n : Int) (w : World) (hm : l.length ≤ 4000000) (hr : Rd w B 1 A l.length (l.map I)) :
    Calls Try.prog 82 #[.slice A l.length c, .int .i64 n] w fun e w' => e = .returned (.bool (hasI l n)) ∧ w = w' := by
  have H := Lib.hid hr
  clear hr
  go_enter Try.func82, Try.ntmps82
  go_wp2
  go_loop [9] (fun i => ∃ k : Nat, k ≤ l.length ∧ i = .int .i64 k ∧ hasI (l.take k) n = false) (fun i => l.length - (intOf i).toNat)
  case atStart => exact ⟨0, by omega, rfl, rfl⟩
  case round =>
    obtain ⟨k, hk, rfl, hq⟩ := hrel
    have Q := Lib.hid hq
    clear hq
    by_cases hlt : k < l.length
    · obtain ⟨b, off, rfl, hb, hcell⟩ := H.out.int hlt
      go_wp2
      · go_ret
        exact ⟨ret_bool (hasI_hit hlt (by assumption)).symm, rfl⟩
      · have hne : (l[k] == n) = false := by assumption
        go_round
        case rel => exact ⟨k + 1, by omega, by go_num, by rw [hasI_take hlt Q.out]; exact hne⟩
        case measure => simp [intOf]; omega
    · go_wp2
      go_ret
      exact ⟨ret_bool (hasI_end hlt Q.out).symm, rfl⟩

set_option maxHeartbeats 400000 in
theorem l1All_any (B : Nat) (A : Option Addr) (c : Nat) (l : List Int) (lo hi : Int) (w : World) (hm : l.length ≤ 4000000) (hr : Rd w B 1 A l.length (l.map I)) :
    Calls Try.prog 73 #[.slice A l.length c, .int .i64 lo, .int .i64 hi] w fun e w' => e = .returned (.bool (allB l lo hi)) ∧ w = w' := by
  have H := Lib.hid hr
  clear hr
  go_enter Try.func73, Try.ntmps73
  go_wp2
  go_loop [11] (fun i => ∃ k : Nat, k ≤ l.length ∧ i = .int .i64 k ∧ allB (l.take k) lo hi = true) (fun i => l.length - (intOf i).toNat)
  case atStart => exact ⟨0, by omega, rfl, rfl⟩
  case round =>
    obtain ⟨k, hk, rfl, hq⟩ := hrel
    have Q := Lib.hid hq
    clear hq
    by_cases hlt : k < l.length
    · obtain ⟨b, off, rfl, hb, hcell⟩ := H.out.int hlt
      by_cases hin : inB l[k] lo hi = true
      · go_wp2_with (go_at_call 40; refine (l1In_any _ _ _ _).mono ?_; rintro e w' ⟨rfl, rfl⟩)
        go_round
        case rel => exact ⟨k + 1, by omega, by go_num, by rw [allB_take hlt Q.out]; exact hin⟩
        case measure => simp [intOf]; omega
      · have hin' : inB l[k] lo hi = false := by simpa using hin
        clear hin
        go_wp2_with (go_at_call 40; refine (l1In_any _ _ _ _).mono ?_; rintro e w' ⟨rfl, rfl⟩)
        go_ret
        exact ⟨ret_bool (allB_miss hlt hin').symm, rfl⟩
    · go_wp2
      go_ret
      exact ⟨ret_bool (allB_end hlt Q.out).symm, rfl⟩

def eqI (a b : List Int) : Bool := decide (a = b)
theorem same_take {a b : List Int} {k : Nat} (ha : k < a.length) (hb : k < b.length) (h : a.take k = b.take k) (he : a[k] = b[k]) : a.take (k + 1) = b.take (k + 1) := by
  rw [List.take_succ_eq_append_getElem ha, List.take_succ_eq_append_getElem hb, h, he]
theorem eqI_miss {a b : List Int} {k : Nat} (ha : k < a.length) (hb : k < b.length) (h : (a[k] != b[k]) = true) : eqI a b = false := by
  unfold eqI
  rw [decide_eq_false_iff_not]
  intro e
  subst e
  simp at h
theorem eqI_len {a b : List Int} (h : a.length ≠ b.length) : eqI a b = false := by
  unfold eqI
  rw [decide_eq_false_iff_not]
  intro e
  exact h (by rw [e])
theorem eqI_end {a b : List Int} {k : Nat} (hl : a.length = b.length) (hk : ¬ k < a.length) (h : a.take k = b.take k) : eqI a b = true := by
  unfold eqI
  rw [List.take_of_length_le (by omega), List.take_of_length_le (by omega)] at h
  simp [h]

def mostI (a b : Int) : Int := if b < a then a else b
def leastI (a b : Int) : Int := if a < b then a else b
set_option maxHeartbeats 400000 in
theorem l1Least_any (a b : Int) (w : World) :
    Calls Try.prog 80 #[.int .i64 a, .int .i64 b] w fun e w' => e = .returned (.int .i64 (leastI a b)) ∧ w = w' := by
  by_cases h1 : a < b
  · have e : leastI a b = a := by simp [leastI, h1]
    rw [e]
    go_enter Try.func80, Try.ntmps80
    go_wp2
    go_ret
    exact ⟨rfl, rfl⟩
  · have e : leastI a b = b := by simp [leastI, h1]
    rw [e]
    go_enter Try.func80, Try.ntmps80
    go_wp2
    go_ret
    exact ⟨rfl, rfl⟩
set_option maxHeartbeats 400000 in
theorem l1Most_any (a b : Int) (w : World) :
    Calls Try.prog 75 #[.int .i64 a, .int .i64 b] w fun e w' => e = .returned (.int .i64 (mostI a b)) ∧ w = w' := by
  by_cases h1 : b < a
  · have e : mostI a b = a := by simp [mostI, h1]
    rw [e]
    go_enter Try.func75, Try.ntmps75
    go_wp2
    go_ret
    exact ⟨rfl, rfl⟩
  · have e : mostI a b = b := by simp [mostI, h1]
    rw [e]
    go_enter Try.func75, Try.ntmps75
    go_wp2
    go_ret
    exact ⟨rfl, rfl⟩

def sumL (a b : List Int) : List Int := List.zipWith (fun x y => leastI (x + y) 1000001) a b
theorem sumL_length (a b : List Int) (h : a.length ≤ b.length) : (sumL a b).length = a.length := by simp [sumL]; omega
theorem sumL_take {a b : List Int} {k : Nat} (ha : k < a.length) (hb : k < b.length) : (sumL a b).take (k + 1) = (sumL a b).take k ++ [leastI (a[k] + b[k]) 1000001] := by
  rw [List.take_succ_eq_append_getElem (by simp [sumL]; omega)]
  simp [sumL]

set_option maxRecDepth 100000 in
set_option maxHeartbeats 1000000 in
theorem plSum_any (B : Nat) (A A' : Option Addr) (c c' : Nat) (a b : List Int) (w : World) (hm : a.length ≤ 1000) (hab : a.length ≤ b.length) (hB : B ≤ w.heap.size)
    (ha : ∀ x ∈ a, 0 ≤ x ∧ x ≤ 1000001) (hbb : ∀ x ∈ b, 0 ≤ x ∧ x ≤ 1000001)
    (hr : Rd w B 1 A a.length (a.map I)) (hr' : Rd w B 1 A' b.length (b.map I)) :
    Calls Try.prog 79 #[.slice A a.length c, .slice A' b.length c'] w fun e w' => ∃ A1 c1, e = .returned (.slice A1 a.length c1) ∧ OwI w' w.heap.size (.slice A1 a.length c1) (sumL a b) ∧ Below w.heap.size w w' := by
  have H := Lib.hid hr
  have H' := Lib.hid hr'
  have Ha := Lib.hid ha
  have Hb := Lib.hid hbb
  clear hr hr' ha hbb
  obtain ⟨S, hS⟩ : ∃ S, S = w.heap.size := ⟨_, rfl⟩
  rw [← hS]
  have HS := Lib.hid hS
  clear hS
  go_enter Try.func79, Try.ntmps79
  go_wp2
  go_loopw [5, 9] (fun o i wr => ∃ (k : Nat) (A1 : Option Addr) (c1 : Nat), k ≤ a.length ∧ i = .int .i64 k ∧ o = .slice A1 k c1 ∧ OwI wr S o ((sumL a b).take k) ∧ Below S w wr) (fun _ i _ => a.length - (intOf i).toNat)
  case atStart => exact ⟨0, none, 0, by omega, rfl, rfl, OwI.nil _ _, Below.refl _ _⟩
  case round =>
    obtain ⟨k, A1, c1, hk, rfl, rfl, hown, hbel⟩ := hrel
    by_cases hlt : k < a.length
    · have hlt' : k < b.length := by omega
      have hSs : S ≤ wr.heap.size := by have := HS.out; have := hbel.size; omega
      obtain ⟨b1, off, rfl, hb1, hcell⟩ := (H.out.below' hbel (by have := HS.out; omega)).int hlt
      obtain ⟨b2, off2, rfl, hb2, hcell2⟩ := (H'.out.below' hbel (by have := HS.out; omega)).int hlt'
      have i1 : (k : Int) < (a.length : Int) := by omega
      have i2 : (k : Int) < (b.length : Int) := by omega
      have i0 : (0 : Int) ≤ (k : Int) := by omega
      have q1 := Ha.out _ (List.getElem_mem hlt)
      have q2 := Hb.out _ (List.getElem_mem hlt')
      have hlen : ((sumL a b).take k).length = k := by simp [sumL_length a b hab]; omega
      have HL := Lib.hid hlen
      have hsum : IntKind.i64.wrap (a[k] + b[k]) = a[k] + b[k] := IntWalk.i64_in _ (by omega)
      clear hlen
      have W := Lib.hid hown
      have W2 := Lib.hid hbel
      clear hown hbel
      go_wp2
      refine wp_region_Tw [0, 1, 2, 3, 4, 5, 6, 7, 8, 9, 13] [4, 8] (.lp 0 (.lp 1 (.lp 2 (.lp 3 (.lp 5 (.lp 6 (.lp 7 (.ls 4 (.ls 8 (.lp 9 (.hv 10 (.hv 11 (.hv 12 (.lp 13 (.done))))))))))))))) (by kernel_rfl) (by kernel_rfl) ?_
      (repeat (first | (refine T_lp rfl (fun K hK => ?_); go_simp; refine hK _ ?_; clear hK K) | (refine T_ls rfl rfl (fun K hK => ?_); go_simp; refine hK _ ?_; clear hK K)))
      (refine T_hv rfl (by kernel_rfl) (fun K hK => ?_); go_simp)
      go_at_call 80
      refine (l1Least_any _ _ _).mono ?_
      rintro e w' ⟨rfl, rfl⟩
      (go_simp; refine hK _ _ ?_; clear hK K)
      (refine T_hv rfl (by kernel_rfl) (fun K hK => ?_); go_simp; refine hK _ _ ?_; clear hK K)
      refine T_hv rfl (by kernel_rfl) (fun K hK => ?_)
      refine step_app_int rfl (.tmp 12) (.tmp 23) rfl S k _ _ rfl ((OwI.alloc W.out _).drew) HL.out wr.heap.size 1 (leastI (a[k] + b[k]) 1000001) rfl (by simp) (by omega) (by simp; omega) ?_
      intro A2 c2 w2 hown2 hg2 hbel2
      (go_simp; refine hK _ _ ?_; clear hK K)
      (repeat (first | (refine T_lp rfl (fun K hK => ?_); go_simp; refine hK _ ?_; clear hK K) | (refine T_ls rfl rfl (fun K hK => ?_); go_simp; refine hK _ ?_; clear hK K)))
      refine T_done ?_
      go_wp2
      go_roundw
      case rel => exact ⟨k + 1, A2, c2, by omega, by go_num, rfl, by rw [sumL_take hlt hlt']; exact hown2, ((W2.out.alloc hSs _).drew).trans hbel2⟩
      case measure => simp [intOf]; omega
    · have hk' : k = a.length := by omega
      subst hk'
      rw [List.take_of_length_le (by rw [sumL_length a b hab]; exact Nat.le_refl _)] at hown
      go_wp2
      go_ret
      exact ⟨A1, c1, rfl, hown, hbel⟩
end Go.Proofs.Ytodjnafalbbmjaa
/- The laws' own helpers: sizes, copies, comparison of plans. -/
namespace Go.Proofs.Ytodjnafalbbmjaa
open Go.RowKit

def szR (left : Int) (n : Nat) : Int := if left - n < 0 then -1 else left - n

def szPl (p : Pl) (left : Int) : Int := if szR left p.s.length < 0 then -1 else szR (szR left p.s.length) p.o.length
theorem szR_bd {left : Int} {n : Nat} (h0 : -1 ≤ left) (h1 : left ≤ 1048576) : -1 ≤ szR left n ∧ szR left n ≤ 1048576 := by
  unfold szR; split <;> omega

theorem szPl_ok {p : Pl} (h : ¬ szPl p 1048576 < 0) : p.s.length ≤ 1048576 ∧ p.o.length ≤ 1048576 := by
  unfold szPl szR at h
  by_cases h1 : (1048576 : Int) - p.s.length < 0
  · simp [h1] at h
  · simp only [h1, if_false] at h
    by_cases h2 : (1048576 : Int) - p.s.length - p.o.length < 0
    · simp [h2] at h
    · omega

/-- An own slice of steps. -/
def OwS (w : World) (B : Nat) (v : Value) (s : List (Int × Int)) : Prop := w.ownsRow B 68 2 v s.length (fl s)
def OwP (w : World) (B : Nat) (A1 A2 : Option Addr) (c1 c2 : Nat) (p : Pl) : Prop := OwS w B (.slice A1 p.s.length c1) p.s ∧ OwI w B (.slice A2 p.o.length c2) p.o
theorem OwP.rd {w : World} {B : Nat} {A1 A2 : Option Addr} {c1 c2 : Nat} {p : Pl} (h : OwP w B A1 A2 c1 c2 p) : RdP w w.heap.size A1 A2 p := ⟨Rd.of_own h.1, Rd.of_own h.2⟩
theorem OwP.below {w w' : World} {B : Nat} {A1 A2 : Option Addr} {c1 c2 : Nat} {p : Pl} (h : OwP w B A1 A2 c1 c2 p) (hb : Below w.heap.size w w') : OwP w' B A1 A2 c1 c2 p := ⟨own_below h.1 hb, own_below h.2 hb⟩
theorem OwP.base {w : World} {B B' : Nat} {A1 A2 : Option Addr} {c1 c2 : Nat} {p : Pl} (h : OwP w B A1 A2 c1 c2 p) (hB : B' ≤ B) : OwP w B' A1 A2 c1 c2 p := ⟨own_base h.1 hB, own_base h.2 hB⟩

theorem fill_int (l : List Int) (k : Nat) (hk : k < l.length) : ((l.take k).map I ++ List.replicate (l.length - k) (I 0)).set k (I l[k]) = (l.take (k + 1)).map I ++ List.replicate (l.length - (k + 1)) (I 0) := by
  have hl : ((l.take k).map I).length = k := by simp; omega
  rw [List.set_append_right _ _ (by omega), hl, Nat.sub_self, show l.length - k = (l.length - (k + 1)) + 1 from by omega, List.replicate_succ, List.set_cons_zero, List.take_succ_eq_append_getElem hk, List.map_append]
  simp
theorem fill_step (s : List (Int × Int)) (k : Nat) (hk : k < s.length) : ((fl (s.take k) ++ List.replicate ((s.length - k) * 2) (I 0)).set (k * 2) (I s[k].1)).set (k * 2 + 1) (I s[k].2) = fl (s.take (k + 1)) ++ List.replicate ((s.length - (k + 1)) * 2) (I 0) := by
  have hl : (fl (s.take k)).length = k * 2 := by rw [fl_length]; simp; omega
  rw [List.set_append_right _ _ (by omega), show (s.length - k) * 2 = (s.length - (k + 1)) * 2 + 1 + 1 from by omega, List.replicate_succ, List.replicate_succ, hl, Nat.sub_self, List.set_cons_zero,
    List.set_append_right _ _ (by omega), hl, show k * 2 + 1 - k * 2 = 1 from by omega, List.set_cons_succ, List.set_cons_zero, List.take_succ_eq_append_getElem hk, fl_snoc]
  simp
theorem rep_at {l : List Value} {z : Value} {m j : Nat} (h1 : l.length ≤ j) (h2 : j < l.length + m) : (l ++ List.replicate m z)[j]? = some z := by
  rw [List.getElem?_append_right h1, List.getElem?_replicate, if_pos (by omega)]
theorem made1 (z : Value) (n : Nat) : (madeCells #[z] n).toList = List.replicate n z := toList_madeCells_one z n
theorem made2 (v : Value) (n : Nat) : (madeCells #[v, v] (n * 2)).toList = List.replicate (n * 2) v := by
  apply List.ext_getElem?
  intro j
  by_cases hj : j < n * 2
  · have h6 : j % 2 = 0 ∨ j % 2 = 1 := by omega
    rcases h6 with h | h <;> simp [madeCells, hj, h]
  · simp [madeCells, hj]

end Go.Proofs.Ytodjnafalbbmjaa
/- The exponents of a plan in the model. -/
namespace Go.Proofs.Ytodjnafalbbmjaa
open Go.RowKit

def units (n : Nat) : List (List Int) := (List.range n).map fun i => (List.replicate n (0 : Int)).set i 1
def expStep (out : List (List Int)) (s : Int × Int) : List (List Int) := out ++ [sumL (out.getD s.1.toNat []) (out.getD s.2.toNat [])]
def exps (n : Nat) (s : List (Int × Int)) : List (List Int) := s.foldl expStep (units n)
/-- Each step has two values that stand before it, in order. -/
def OkS (n : Nat) (s : List (Int × Int)) : Prop := ∀ i (h : i < s.length), 0 ≤ (s[i]).1 ∧ (s[i]).1 ≤ (s[i]).2 ∧ (s[i]).2 < n + i
def OkR (n : Nat) (rows : List (List Int)) : Prop := ∀ r ∈ rows, r.length = n ∧ ∀ x ∈ r, 0 ≤ x ∧ x ≤ 1000001

theorem units_length (n : Nat) : (units n).length = n := by simp [units]
theorem exps_take (n : Nat) {s : List (Int × Int)} {k : Nat} (hk : k < s.length) : exps n (s.take (k + 1)) = expStep (exps n (s.take k)) s[k] := by
  unfold exps
  rw [List.take_succ_eq_append_getElem hk, List.foldl_append]
  rfl
theorem foldl_expStep_length (s : List (Int × Int)) : ∀ (out : List (List Int)), (s.foldl expStep out).length = out.length + s.length := by
  induction s with
  | nil => intro out; rfl
  | cons p s ih => intro out; rw [List.foldl_cons, ih]; simp [expStep]; omega
theorem exps_length (n : Nat) (s : List (Int × Int)) : (exps n s).length = n + s.length := by
  unfold exps
  rw [foldl_expStep_length, units_length]
theorem units_ok (n : Nat) : OkR n (units n) := by
  intro r hr
  simp only [units, List.mem_map, List.mem_range] at hr
  obtain ⟨i, hi, rfl⟩ := hr
  refine ⟨by simp, fun x hx => ?_⟩
  rcases List.mem_or_eq_of_mem_set hx with h | h
  · have := List.eq_of_mem_replicate h; omega
  · omega
theorem leastI_le (a b : Int) (h0 : 0 ≤ a) (hb : 0 ≤ b) : 0 ≤ leastI a b ∧ leastI a b ≤ b := by
  unfold leastI; split <;> omega
theorem sumL_ok {n : Nat} {a b : List Int} (ha : a.length = n ∧ ∀ x ∈ a, 0 ≤ x ∧ x ≤ 1000001) (hb : b.length = n ∧ ∀ x ∈ b, 0 ≤ x ∧ x ≤ 1000001) :
    (sumL a b).length = n ∧ ∀ x ∈ sumL a b, 0 ≤ x ∧ x ≤ 1000001 := by
  refine ⟨by rw [sumL_length a b (by omega)]; exact ha.1, fun x hx => ?_⟩
  unfold sumL at hx
  rw [List.mem_iff_getElem] at hx
  obtain ⟨i, hi, rfl⟩ := hx
  simp only [List.length_zipWith] at hi
  rw [List.getElem_zipWith]
  have h1 := ha.2 _ (List.getElem_mem (show i < a.length by omega))
  have h2 := hb.2 _ (List.getElem_mem (show i < b.length by omega))
  exact leastI_le _ _ (by omega) (by omega)
theorem okS_take {n : Nat} {s : List (Int × Int)} (h : OkS n s) (k : Nat) : OkS n (s.take k) := by
  intro i hi
  have hi' : i < s.length := by simp at hi; omega
  rw [List.getElem_take]
  exact h i hi'
theorem getD_ok {n : Nat} {rows : List (List Int)} (h : OkR n rows) {j : Nat} (hj : j < rows.length) : (rows.getD j []).length = n ∧ ∀ x ∈ rows.getD j [], 0 ≤ x ∧ x ≤ 1000001 := by
  have e : rows.getD j [] = rows[j] := by simp [hj]
  rw [e]
  exact h _ (List.getElem_mem hj)
theorem exps_ok {n : Nat} {s : List (Int × Int)} (h : OkS n s) : ∀ k, k ≤ s.length → OkR n (exps n (s.take k)) := by
  intro k
  induction k with
  | zero => intro _; simp only [List.take_zero]; exact units_ok n
  | succ k ih =>
    intro hk
    have hk' : k < s.length := by omega
    have ih := ih (by omega)
    obtain ⟨h1, h2, h3⟩ := h k hk'
    rw [exps_take n hk']
    have hl := exps_length n (s.take k)
    rw [List.length_take, Nat.min_eq_left (by omega)] at hl
    intro r hr
    simp only [expStep, List.mem_append, List.mem_singleton] at hr
    rcases hr with hr | rfl
    · exact ih r hr
    · exact sumL_ok (getD_ok ih (by omega)) (getD_ok ih (by omega))

theorem made_own {w : World} {B : Nat} (n k : Nat) (hn : n ≤ 1000) (hB : B ≤ w.heap.size) :
    OwI (w.alloc (.cells ((madeCells #[Value.int .i64 0] n).setIfInBounds k (.int .i64 1)) 3)) B (.slice (some ⟨w.heap.size, 0, none⟩) n n) ((List.replicate n (0 : Int)).set k 1) := by
  have h := World.ownsRow_lit (base := B) (e := 3) (size := 1) w ((madeCells #[Value.int .i64 0] n).setIfInBounds k (.int .i64 1)) n hB (by unfold maxLen; omega) (by simp [size_madeCells])
  unfold OwI
  simp only [List.length_set, List.length_replicate]
  rw [Array.toList_setIfInBounds, toList_madeCells_one] at h
  rw [List.map_set, List.map_replicate]
  exact h

set_option maxRecDepth 100000 in
set_option maxHeartbeats 2000000 in
theorem plExponents_any (B N : Nat) (A1 A2 : Option Addr) (c1 c2 : Nat) (p : Pl) (w : World) (hpn : p.n = N) (h1 : 1 ≤ N) (h6 : N ≤ 6) (hs40 : p.s.length ≤ 1000) (hB : B ≤ w.heap.size) (hok : OkS N p.s)
    (hr : RdP w B A1 A2 p) :
    Calls Try.prog 72 #[.agg #[.int .i64 p.n, .slice A1 p.s.length c1, .slice A2 p.o.length c2]] w fun e w' =>
      ∃ A c, e = .returned (.slice A (exps N p.s).length c) ∧ OwR w' w.heap.size (.slice A (exps N p.s).length c) (exps N p.s) ∧ Below w.heap.size w w' := by
  have H := Lib.hid hr
  have HO := Lib.hid hok
  clear hr hok
  rw [hpn]
  have HN := Lib.hid hpn
  clear hpn
  go_enter Try.func72, Try.ntmps72
  go_wp2
  generalize hw1 : World.alloc w _ = w1
  obtain ⟨x0, x1, x2, xs, xb⟩ := box3 hw1
  clear hw1
  have X := Lib.hid xs
  have XB := Lib.hid xb
  clear xs xb
  go_loopw [3, 4] (fun o i wr => ∃ (k : Nat) (A : Option Addr) (c : Nat), k ≤ N ∧ i = .int .i64 k ∧ o = .slice A k c ∧ OwR wr (w.heap.size + 1) o ((units N).take k) ∧ Below (w.heap.size + 1) w1 wr) (fun _ i _ => N - (intOf i).toNat)
  case atStart => exact ⟨0, none, 0, by omega, rfl, rfl, OwR.nil _ _, Below.refl _ _⟩
  case round =>
    obtain ⟨k, A, c, hk, rfl, rfl, hown, hbel⟩ := hrel
    have hsz : w.heap.size + 1 ≤ wr.heap.size := by have := X.out; have := hbel.size; omega
    have y0 := (hbel.cell (p := ⟨w.heap.size, 0, none⟩) (by simp)).trans x0
    have y1 := (hbel.cell (p := ⟨w.heap.size, 1, none⟩) (by simp)).trans x1
    by_cases hlt : k < N
    · have hmk := run_make_row' (P := Try.prog) 22 3 (.int .i64 0) 8 Try.underlying22 info_int rfl .i64 .i64 N (by omega) (by omega)
      obtain ⟨vs, hv1, hv2, hv3⟩ := hown
      have hlen : ((units N).take k).length = k := by simp [units_length]; omega
      rw [hlen] at hv1 hv2
      have V1 := Lib.hid hv1
      have V2 := Lib.hid hv2
      have V3 := Lib.hid hv3
      have HL := Lib.hid hlen
      have HB := Lib.hid hbel
      have hcm := made_at (.int .i64 0) N k hlt
      clear hv1 hv2 hv3 hlen hbel
      go_wp2_with (first
        | (at_builtin; refine list_step (fun K hK => ?_); refine step_app1 Try.underlying77 info_ints rfl (by omega) rfl (.tmp 20) (.tmp 22) rfl (w.heap.size + 1) k _ vs rfl ((V1.out.alloc _).alloc _) (wr.heap.size + 1) 1 (.slice (some ⟨wr.heap.size, 0, none⟩) N N) rfl ?c1 rfl (by omega) ?c2 ?_; rotate_right; intro A2 c2' w2 hown2 hg2 hbel2; go_simp; refine hK _ _ ?_; clear hK K))
      case c1 => simp
      case c2 => simp; omega
      go_roundw
      case rel =>
        refine ⟨k + 1, A2, c2', by omega, by go_num, rfl, ?_, ((HB.out.alloc hsz _).alloc (by simp; omega) _).trans hbel2⟩
        have ho : OwI _ _ _ _ := World.ownsRow.alloc (made_own (w := wr) (B := w.heap.size + 1) N k (by omega) hsz) (Obj.cells #[Value.slice (some ⟨wr.heap.size, 0, none⟩) N N] 22)
        have h3' : ∀ i (h : i < ((units N).take k).length), ∃ A c, vs[i]? = some (.slice A (((units N).take k)[i]).length c) ∧ OwI ((wr.alloc (.cells ((madeCells #[Value.int .i64 0] N).setIfInBounds k (.int .i64 1)) 3)).alloc (Obj.cells #[Value.slice (some ⟨wr.heap.size, 0, none⟩) N N] 22)) (w.heap.size + 1) (.slice A (((units N).take k)[i]).length c) ((units N).take k)[i] := fun i h => by
          obtain ⟨A0, c0, e0, ho0⟩ := V3.out i h
          exact ⟨A0, c0, e0, World.ownsRow.alloc (World.ownsRow.alloc ho0 _) _⟩
        have hu : (units N).take (k + 1) = (units N).take k ++ [(List.replicate N (0 : Int)).set k 1] := by
          rw [List.take_succ_eq_append_getElem (by rw [units_length]; exact hlt)]
          simp [units]
        rw [hu]
        have hll : ((List.replicate N (0 : Int)).set k 1).length = N := by simp
        exact OwR.app HL.out hll (World.ownsRow.alloc (World.ownsRow.alloc V1.out _) _) V2.out h3' ho hg2 hown2
      case measure => simp [intOf]; omega
    · have hk' : k = N := by omega
      subst hk'
      clear hlt
      have hfull : (units k).take k = units k := List.take_of_length_le (by rw [units_length]; exact Nat.le_refl _)
      rw [hfull] at hown
      have OWN := Lib.hid hown
      have HB := Lib.hid hbel
      clear hown hbel hfull
      go_wp2
      go_loopw [3, 27] (fun o i wr => ∃ (j : Nat) (A : Option Addr) (c : Nat), j ≤ p.s.length ∧ i = .int .i64 j ∧ o = .slice A (k + j) c ∧ OwR wr (w.heap.size + 1) o (exps k (p.s.take j)) ∧ Below (w.heap.size + 1) w1 wr) (fun _ i _ => p.s.length - (intOf i).toNat)
      case atStart => exact ⟨0, A, c, by omega, rfl, rfl, OWN.out, HB.out⟩
      case round =>
        obtain ⟨j, A0, c0, hj, rfl, rfl, hown, hbel⟩ := hrel
        have hsz : w.heap.size + 1 ≤ wr.heap.size := by have := X.out; have := hbel.size; omega
        clear y0 y1 x0 x1 x2 OWN HB
        by_cases hlt : j < p.s.length
        · obtain ⟨rows, hrows⟩ : ∃ rows, rows = exps k (p.s.take j) := ⟨_, rfl⟩
          have hrl : rows.length = k + j := by rw [hrows, exps_length]; simp; omega
          have hro : OkR k rows := by rw [hrows]; exact exps_ok HO.out j hj
          obtain ⟨o1, o2, o3⟩ := HO.out j hlt
          obtain ⟨a, ha⟩ : ∃ a : Nat, (p.s[j]).1 = a := ⟨(p.s[j]).1.toNat, by omega⟩
          obtain ⟨b, hb⟩ : ∃ b : Nat, (p.s[j]).2 = b := ⟨(p.s[j]).2.toNat, by omega⟩
          obtain ⟨sb, off, rfl, hsb, hc1, hc2⟩ := ((H.out.1.below' XB.out hB).below' hbel (by omega)).stp hlt
          rw [ha] at hc1
          rw [hb] at hc2
          rw [← hrows, ← hrl] at hown
          have hal : a < k + j := by omega
          have hbl : b < k + j := by omega
          have ia : (a : Int) < (k : Int) + (j : Int) := by omega
          have ib : (b : Int) < (k : Int) + (j : Int) := by omega
          have har : a < rows.length := by omega
          have hbr : b < rows.length := by omega
          obtain ⟨g, B1, d1, rfl, hg, hca, hoa⟩ := hown.at_ har
          obtain ⟨g', B2, d2, hg', _, hcb, hob⟩ := hown.at_ hbr
          obtain rfl : g = g' := by injection hg' with hg'; injection hg'
          have OWN := Lib.hid hown
          have OA := Lib.hid hoa
          have OB := Lib.hid hob
          have HB := Lib.hid hbel
          have HR := Lib.hid hrl
          have HRO := Lib.hid hro
          have HRW := Lib.hid hrows
          have HA := Lib.hid ha
          have HB2 := Lib.hid hb
          clear hown hoa hob hbel hrl hro hrows ha hb hg' o1 o2 o3
          go_wp2
          refine wp_region_Tw [0, 1, 2, 3, 4, 5, 6, 7, 8, 9, 10, 14] [3, 5, 8, 10] (.lp 0 (.lp 1 (.lp 2 (.lp 6 (.lp 7 (.ls 3 (.lp 4 (.ls 5 (.ls 8 (.lp 9 (.ls 10 (.hv 11 (.hv 12 (.hv 13 (.lp 14 (.done)))))))))))))))) (by kernel_rfl) (by kernel_rfl) ?_
          (repeat (first | (refine T_lp rfl (fun K hK => ?_); go_simp; refine hK _ ?_; clear hK K) | (refine T_ls rfl rfl (fun K hK => ?_); go_simp; refine hK _ ?_; clear hK K)))
          (refine T_hv rfl (by kernel_rfl) (fun K hK => ?_); go_simp)
          go_at_call 79
          have hW : wr.heap.size ≤ (wr.alloc (Obj.cells #[Value.int .i64 ↑a, Value.int .i64 ↑b] 68)).drew.heap.size := by simp
          refine (plSum_any wr.heap.size _ _ _ _ rows[a] rows[b] _ (by have := (HRO.out _ (List.getElem_mem har)).1; omega) (by rw [(HRO.out _ (List.getElem_mem har)).1, (HRO.out _ (List.getElem_mem hbr)).1]; exact Nat.le_refl _) hW
            (HRO.out _ (List.getElem_mem _)).2 (HRO.out _ (List.getElem_mem _)).2 (OA.out.rd.alloc (Nat.le_refl _) _) (OB.out.rd.alloc (Nat.le_refl _) _)).mono ?_
          rintro e w2 ⟨A3, c3, rfl, hown3, hbel3⟩
          (go_simp; refine hK _ _ ?_; clear hK K)
          (refine T_hv rfl (by kernel_rfl) (fun K hK => ?_); go_simp; refine hK _ _ ?_; clear hK K)
          refine T_hv rfl (by kernel_rfl) (fun K hK => ?_)
          have OW2 := (((OWN.out.alloc (Obj.cells #[Value.int .i64 ↑a, Value.int .i64 ↑b] 68)).drew).below hbel3).alloc (Obj.cells #[Value.slice A3 (rows[a]).length c3] 22)
          obtain ⟨vs, v1, v2, v3⟩ := OW2
          have OR3 : OwI _ (w.heap.size + 1) _ _ := (World.ownsRow.alloc (own_base hown3 (by simp; omega)) (Obj.cells #[Value.slice A3 (rows[a]).length c3] 22))
          have hs2 : wr.heap.size ≤ w2.heap.size := by have := hbel3.size; simp at this; omega
          have v1' := v1
          rw [HR.out] at v1'
          refine step_app1 Try.underlying77 info_ints rfl (by omega) rfl (.tmp 31) (.tmp 43) rfl (w.heap.size + 1) (k + j) _ vs rfl v1' w2.heap.size 1 (.slice A3 (rows[a]).length c3) rfl (by simp) rfl (by omega) (by simp; omega) ?_
          intro A4 c4 w4 hown4 hg4 hbel4
          (go_simp; refine hK _ _ ?_; clear hK K)
          (repeat (first | (refine T_lp rfl (fun K hK => ?_); go_simp; refine hK _ ?_; clear hK K) | (refine T_ls rfl rfl (fun K hK => ?_); go_simp; refine hK _ ?_; clear hK K)))
          refine T_done ?_
          go_wp2
          have hsl : (sumL rows[a] rows[b]).length = (rows[a]).length := sumL_length _ _ (by rw [(HRO.out _ (List.getElem_mem har)).1, (HRO.out _ (List.getElem_mem hbr)).1]; exact Nat.le_refl _)
          go_roundw
          case rel =>
            refine ⟨j + 1, A4, c4, by omega, by go_num, rfl, ?_, ((((HB.out.alloc hsz _).drew).trans (hbel3.mono (by simp; omega))).alloc (by omega) _).trans hbel4⟩
            rw [exps_take k hlt, ← HRW.out]
            have e : expStep rows p.s[j] = rows ++ [sumL rows[a] rows[b]] := by
              unfold expStep
              rw [HA.out, HB2.out]
              simp [har, hbr]
            rw [e]
            exact OwR.app HR.out hsl v1' (by rw [v2, HR.out]) v3 OR3 hg4 hown4
          case measure => simp [intOf]; omega
        · have hj' : j = p.s.length := by omega
          subst hj'
          have hl := exps_length k p.s
          rw [List.take_of_length_le (Nat.le_refl _)] at hown
          rw [← hl] at hown
          go_wp2
          go_ret
          refine ⟨A0, c0, ret_slice hl.symm, hown.base (by omega), XB.out.trans (hbel.mono (by omega))⟩
end Go.Proofs.Ytodjnafalbbmjaa
/- Which plans the model takes as valid. -/
namespace Go.Proofs.Ytodjnafalbbmjaa
open Go.RowKit

def stepOk (n : Int) (i : Nat) (st : Int × Int) : Bool := inB st.1 0 st.2 && decide (st.2 < n + i)
def okPre (n : Int) (s : List (Int × Int)) (k : Nat) : Bool := (List.range k).all fun i => stepOk n i (s.getD i (0, 0))
def expsB (rows : List (List Int)) : Bool := rows.all fun r => allB r 0 1000000
def good (p : Pl) : Bool :=
  inB p.n 1 6 && (decide (p.s.length ≤ 40) && (decide (p.o.length ≤ 6) && (okPre p.n p.s p.s.length && (expsB (exps p.n.toNat p.s) && allB p.o 0 (p.n + p.s.length - 1)))))

theorem okPre_succ (n : Int) (s : List (Int × Int)) (k : Nat) (hk : k < s.length) : okPre n s (k + 1) = (okPre n s k && stepOk n k s[k]) := by
  unfold okPre
  rw [List.range_succ, List.all_append]
  simp [hk]
theorem okPre_false {n : Int} {s : List (Int × Int)} {k : Nat} (hk : k < s.length) (h : stepOk n k s[k] = false) : okPre n s s.length = false := by
  unfold okPre
  rw [List.all_eq_false]
  exact ⟨k, by simpa using hk, by simp [hk, h]⟩
theorem okS_of_pre {n : Nat} {s : List (Int × Int)} (h : okPre n s s.length = true) : OkS n s := by
  intro i hi
  unfold okPre at h
  rw [List.all_eq_true] at h
  have := h i (by simpa using hi)
  simp [hi, stepOk, inB] at this
  omega
theorem expsB_succ (rows : List (List Int)) (k : Nat) (hk : k < rows.length) : expsB (rows.take (k + 1)) = (expsB (rows.take k) && allB rows[k] 0 1000000) := by
  unfold expsB
  rw [List.take_succ_eq_append_getElem hk, List.all_append]
  simp
theorem expsB_false {rows : List (List Int)} {k : Nat} (hk : k < rows.length) (h : allB rows[k] 0 1000000 = false) : expsB rows = false := by
  unfold expsB
  rw [List.all_eq_false]
  exact ⟨_, List.getElem_mem hk, by simp [h]⟩

set_option maxRecDepth 100000 in
set_option maxHeartbeats 2000000 in
theorem plGood_any (B : Nat) (A1 A2 : Option Addr) (c1 c2 : Nat) (p : Pl) (w : World) (hB : B ≤ w.heap.size) (hls : p.s.length ≤ 2000000) (hlo : p.o.length ≤ 2000000)
    (hr : RdP w B A1 A2 p) :
    Calls Try.prog 61 #[.agg #[.int .i64 p.n, .slice A1 p.s.length c1, .slice A2 p.o.length c2]] w fun e w' => e = .returned (.bool (good p)) ∧ Below w.heap.size w w' := by
  have H := Lib.hid hr
  clear hr
  obtain ⟨g1, hg1⟩ : ∃ b, inB p.n 1 6 = b := ⟨_, rfl⟩
  cases g1 with
  | false =>
    have e : good p = false := by simp [good, hg1]
    rw [e]
    clear e
    go_enter Try.func61, Try.ntmps61
    go_wp2_with (go_at_call 40; refine (l1In_any _ _ _ _).mono ?_; rintro e w' ⟨rfl, rfl⟩)
    go_ret
    exact ⟨rfl, (Below.refl _ _).alloc (Nat.le_refl _) _⟩
  | true =>
  by_cases g2 : p.s.length ≤ 40
  case neg =>
    have e : good p = false := by simp [good, g2]
    rw [e]
    clear e
    have i2 : (40 : Int) < (p.s.length : Int) := by omega
    go_enter Try.func61, Try.ntmps61
    go_wp2_with (go_at_call 40; refine (l1In_any _ _ _ _).mono ?_; rintro e w' ⟨rfl, rfl⟩)
    go_ret
    exact ⟨rfl, (Below.refl _ _).alloc (Nat.le_refl _) _⟩
  case pos =>
  by_cases g3 : p.o.length ≤ 6
  case neg =>
    have e : good p = false := by simp [good, g3]
    rw [e]
    clear e
    have i2 : (p.s.length : Int) ≤ 40 := by omega
    have i3 : (6 : Int) < (p.o.length : Int) := by omega
    go_enter Try.func61, Try.ntmps61
    go_wp2_with (go_at_call 40; refine (l1In_any _ _ _ _).mono ?_; rintro e w' ⟨rfl, rfl⟩)
    go_ret
    exact ⟨rfl, (Below.refl _ _).alloc (Nat.le_refl _) _⟩
  case pos =>
  have i2 : (p.s.length : Int) ≤ 40 := by omega
  have i3 : (p.o.length : Int) ≤ 6 := by omega
  obtain ⟨n1, n2⟩ : 1 ≤ p.n ∧ p.n ≤ 6 := by simpa [inB] using hg1
  obtain ⟨N, hN⟩ : ∃ N : Nat, p.n = N := ⟨p.n.toNat, by omega⟩
  have eg : good p = (okPre p.n p.s p.s.length && (expsB (exps N p.s) && allB p.o 0 (p.n + p.s.length - 1))) := by
    have : p.n.toNat = N := by omega
    simp [good, hg1, g2, g3, this]
  rw [eg]
  have HN := Lib.hid hN
  clear eg hN
  go_enter Try.func61, Try.ntmps61
  go_wp2_with (go_at_call 40; refine (l1In_any _ _ _ _).mono ?_; rintro e w' ⟨rfl, rfl⟩)
  generalize hw1 : World.alloc w _ = w1
  obtain ⟨x0, x1, x2, xs, xb⟩ := box3 hw1
  clear hw1
  have X := Lib.hid xs
  have XB := Lib.hid xb
  have X0 := Lib.hid x0
  have X1 := Lib.hid x1
  have X2 := Lib.hid x2
  clear xs xb x0 x1 x2
  go_loopw [26] (fun i wr => ∃ (k : Nat), k ≤ p.s.length ∧ i = .int .i64 k ∧ okPre p.n p.s k = true ∧ Below (w.heap.size + 1) w1 wr) (fun i _ => p.s.length - (intOf i).toNat)
  case atStart => exact ⟨0, by omega, rfl, rfl, Below.refl _ _⟩
  case round =>
    obtain ⟨k, hk, rfl, hok, hbel⟩ := hrel
    have hsz : w.heap.size + 1 ≤ wr.heap.size := by have := X.out; have := hbel.size; omega
    have OK := Lib.hid hok
    clear hok
    have y0 := (hbel.cell (p := ⟨w.heap.size, 0, none⟩) (by simp)).trans X0.out
    have y1 := (hbel.cell (p := ⟨w.heap.size, 1, none⟩) (by simp)).trans X1.out
    have y2 := (hbel.cell (p := ⟨w.heap.size, 2, none⟩) (by simp)).trans X2.out
    have z0 := cell_kept y0
    by_cases hlt : k < p.s.length
    · obtain ⟨sb, off, rfl, hsb, hc1, hc2⟩ := ((H.out.1.below' XB.out hB).below' hbel (by omega)).stp hlt
      obtain ⟨gi, hgi⟩ : ∃ b, inB (p.s[k]).1 0 (p.s[k]).2 = b := ⟨_, rfl⟩
      cases gi with
      | false =>
        have e : (okPre p.n p.s p.s.length && (expsB (exps N p.s) && allB p.o 0 (p.n + p.s.length - 1))) = false := by rw [okPre_false hlt (by simp [stepOk, hgi])]; rfl
        have E := Lib.hid e
        clear e
        go_wp2_with (go_at_call 40; refine (l1In_any _ _ _ _).mono ?_; rintro e w' ⟨rfl, rfl⟩)
        go_ret
        exact ⟨ret_bool E.out.symm, XB.out.trans ((hbel.mono (by omega)).alloc (by omega) _)⟩
      | true =>
        by_cases hb : (p.s[k]).2 < p.n + k
        · have e : okPre p.n p.s (k + 1) = true := by rw [okPre_succ _ _ _ hlt, OK.out]; simp [stepOk, hgi, hb]
          have E := Lib.hid e
          clear e
          go_wp2_with (go_at_call 40; refine (l1In_any _ _ _ _).mono ?_; rintro e w' ⟨rfl, rfl⟩)
          go_roundw
          case rel => exact ⟨k + 1, by omega, by go_num, E.out, hbel.alloc hsz _⟩
          case measure => simp [intOf]; omega
        · have e : (okPre p.n p.s p.s.length && (expsB (exps N p.s) && allB p.o 0 (p.n + p.s.length - 1))) = false := by rw [okPre_false hlt (by simp [stepOk, hb])]; rfl
          have E := Lib.hid e
          have hb' : p.n + k ≤ (p.s[k]).2 := by omega
          clear e hb
          go_wp2_with (go_at_call 40; refine (l1In_any _ _ _ _).mono ?_; rintro e w' ⟨rfl, rfl⟩)
          go_ret
          exact ⟨ret_bool E.out.symm, XB.out.trans ((hbel.mono (by omega)).alloc (by omega) _)⟩
    · have hk' : k = p.s.length := by omega
      have hokN : OkS N p.s := by
        have h := OK.out
        rw [hk', HN.out] at h
        exact okS_of_pre h
      have eg : (okPre p.n p.s p.s.length && (expsB (exps N p.s) && allB p.o 0 (p.n + p.s.length - 1))) = (expsB (exps N p.s) && allB p.o 0 (p.n + p.s.length - 1)) := by
        have h := OK.out
        rw [hk'] at h
        rw [h]
        rfl
      have EG := Lib.hid eg
      have HOK := Lib.hid hokN
      have HBW := Lib.hid hbel
      have hpw := (H.out.below' XB.out hB).below' hbel (by omega)
      have HPW := Lib.hid hpw
      clear eg hokN hbel hpw hk'
      go_wp2_with fail
      go_at_call 72
      refine (plExponents_any B N _ _ _ _ p _ HN.out (by have := HN.out; omega) (by have := HN.out; omega) (by omega) (by omega) HOK.out HPW.out).mono ?_
      rintro e w2 ⟨A3, c3, rfl, hrows, hbel2⟩
      have hlt0 : w.heap.size < wr.heap.size := by omega
      have v0 := (hbel2.cell (p := ⟨w.heap.size, 0, none⟩) hlt0).trans y0
      have v1 := (hbel2.cell (p := ⟨w.heap.size, 1, none⟩) hlt0).trans y1
      have v2 := (hbel2.cell (p := ⟨w.heap.size, 2, none⟩) hlt0).trans y2
      have hro : Rd w2 B 1 A2 p.o.length (p.o.map I) := (HPW.out.below' hbel2 (by omega)).2
      have HRO := Lib.hid hro
      have hfin := ((HBW.out.mono (show w.heap.size ≤ w.heap.size + 1 by omega)).trans (hbel2.mono (show w.heap.size ≤ wr.heap.size by omega)))
      have HF := Lib.hid (XB.out.trans hfin)
      clear hfin hro y0 y1 y2 z0 hbel2 hsz hlt0 hlt
      obtain ⟨rows, hrw⟩ : ∃ rows, rows = exps N p.s := ⟨_, rfl⟩
      rw [← hrw] at hrows
      have hrl : rows.length ≤ 1000 := by rw [hrw, exps_length]; have := HN.out; omega
      have hr1 : (exps N p.s).length = rows.length := by rw [hrw]
      have hrk : OkR N rows := by rw [hrw]; have := exps_ok HOK.out p.s.length (Nat.le_refl _); rwa [List.take_of_length_le (Nat.le_refl _)] at this
      have HR := Lib.hid hrows
      have HK := Lib.hid hrk
      have HW := Lib.hid hrw
      rw [hr1]
      clear hrows hrw hrk hr1
      go_wp2
      go_loop [50] (fun i => ∃ j : Nat, j ≤ rows.length ∧ i = .int .i64 j ∧ expsB (rows.take j) = true) (fun i => rows.length - (intOf i).toNat)
      case atStart => exact ⟨0, by omega, rfl, rfl⟩
      case round =>
        obtain ⟨j, hj, rfl, hq⟩ := hrel
        have Q := Lib.hid hq
        clear hq
        by_cases hlt : j < rows.length
        · obtain ⟨g, B1, d1, rfl, hg, hcj, hoj⟩ := HR.out.at_ hlt
          have HO := Lib.hid hoj
          have hjl : (rows[j]).length ≤ 4000000 := by rw [(HK.out _ (List.getElem_mem hlt)).1]; have := HN.out; omega
          clear hoj
          obtain ⟨ga, hga⟩ : ∃ b, allB rows[j] 0 1000000 = b := ⟨_, rfl⟩
          cases ga with
          | true =>
            go_wp2_with (go_at_call 73; refine (l1All_any _ _ _ _ _ _ _ hjl HO.out.rd).mono ?_; rintro e w' ⟨rfl, rfl⟩)
            go_round
            case rel => exact ⟨j + 1, by omega, by go_num, by rw [expsB_succ _ _ hlt, Q.out, hga]; rfl⟩
            case measure => simp [intOf]; omega
          | false =>
            go_wp2_with (go_at_call 73; refine (l1All_any _ _ _ _ _ _ _ hjl HO.out.rd).mono ?_; rintro e w' ⟨rfl, rfl⟩)
            go_ret
            exact ⟨ret_bool (by rw [EG.out, ← HW.out, expsB_false hlt hga]; rfl), HF.out⟩
        · have e : expsB rows = true := by
            have := Q.out
            rwa [List.take_of_length_le (by omega)] at this
          have E := Lib.hid e
          clear e
          go_wp2_with fail
          go_at_call 73
          refine (l1All_any B _ _ _ _ _ _ (by omega) HRO.out).mono ?_
          rintro e w' ⟨rfl, rfl⟩
          go_wp2
          go_ret
          exact ⟨ret_bool (by rw [EG.out, ← HW.out, E.out]; rfl), HF.out⟩
end Go.Proofs.Ytodjnafalbbmjaa
/- The program's values of a plan: inputs, products. -/
namespace Go.Proofs.Ytodjnafalbbmjaa
open Go.RowKit

def fl6 (rows : List (List Int)) : List Value := rows.flatten.map I
def Six (rows : List (List Int)) : Prop := ∀ r ∈ rows, r.length = 6
def unit6 (i : Nat) : List Int := (List.replicate 6 (0 : Int)).set i 1
def units6 (n : Nat) : List (List Int) := (List.range n).map unit6

theorem flat_length {rows : List (List Int)} (h : Six rows) : rows.flatten.length = rows.length * 6 := by
  induction rows with
  | nil => rfl
  | cons r rows ih =>
    have h1 := h r (by simp)
    have h2 := ih (fun r' hr => h r' (by simp [hr]))
    simp at h2 ⊢
    omega
theorem fl6_length {rows : List (List Int)} (h : Six rows) : (fl6 rows).length = rows.length * 6 := by rw [fl6, List.length_map]; exact flat_length h
theorem flat_at {rows : List (List Int)} (h : Six rows) {k : Nat} (hk : k < rows.length) {j : Nat} (hj : j < 6) : rows.flatten[k * 6 + j]? = some ((rows[k]).getD j 0) := by
  induction rows generalizing k with
  | nil => simp at hk
  | cons r rows ih =>
    have h1 := h r (by simp)
    rw [List.flatten_cons]
    cases k with
    | zero =>
      rw [List.getElem?_append_left (by omega)]
      have hj' : j < r.length := by omega
      simp [hj']
    | succ k =>
      have h2 := ih (fun r' hr => h r' (by simp [hr])) (k := k) (by simpa using hk)
      rw [List.getElem?_append_right (by omega)]
      rw [show (k + 1) * 6 + j - r.length = k * 6 + j from by omega]
      simpa using h2
theorem fl6_at {rows : List (List Int)} (h : Six rows) {k : Nat} (hk : k < rows.length) {j : Nat} (hj : j < 6) : (fl6 rows)[k * 6 + j]? = some (I ((rows[k]).getD j 0)) := by
  rw [fl6, List.getElem?_map, flat_at h hk hj]
  rfl
theorem six_units (n : Nat) : Six (units6 n) := by
  intro r hr
  simp only [units6, List.mem_map] at hr
  obtain ⟨i, _, rfl⟩ := hr
  simp [unit6]

theorem info_exp : (Try.prog.info? 137).map (fun i => (i.zero, i.size, i.bytes)) = some (some (.agg #[.int .i64 0, .int .i64 0, .int .i64 0, .int .i64 0, .int .i64 0, .int .i64 0]), 6, 48) := by kernel_rfl

theorem made6 (v : Value) (n : Nat) : (madeCells #[v, v, v, v, v, v] (n * 6)).toList = List.replicate (n * 6) v := by
  apply List.ext_getElem?
  intro j
  by_cases hj : j < n * 6
  · have h6 : j % 6 = 0 ∨ j % 6 = 1 ∨ j % 6 = 2 ∨ j % 6 = 3 ∨ j % 6 = 4 ∨ j % 6 = 5 := by omega
    rcases h6 with h | h | h | h | h | h <;> simp [madeCells, hj, h]
  · simp [madeCells, hj]

set_option maxRecDepth 100000 in
set_option maxHeartbeats 2000000 in
theorem inputValues_any (N : Nat) (w : World) (h1 : 1 ≤ N) (h6 : N ≤ 6) :
    Calls Try.prog 113 #[.int .i64 N] w fun e w' =>
      ∃ A c, e = .returned (.agg #[.slice A N c]) ∧ w'.ownsRow w.heap.size 137 6 (.slice A N c) N (fl6 (units6 N)) ∧ Below w.heap.size w w' := by
  obtain ⟨i0, hi, hz0, hz1, hz2⟩ := info_parts info_exp
  have hmk : ∀ W : World, (Instr.makeSlice 121 (.int .i64 (N : Int)) (.int .i64 (N : Int))).run Try.prog W = .ok (.slice (some ⟨W.heap.size, 0, none⟩) N N) (W.alloc (.cells (madeCells #[.int .i64 0, .int .i64 0, .int .i64 0, .int .i64 0, .int .i64 0, .int .i64 0] (N * 6)) 137)) := fun W => by
    have hr := run_make (P := Try.prog) W 121 137 i0 _ Try.underlying121 hi hz0 .i64 .i64 N N (by omega) (Int.le_refl _) (by rw [hz2]; omega) (by omega)
    simp only [Int.toNat_natCast] at hr
    rw [hz1] at hr
    exact hr
  have hst : ∀ k, k < N → ((units6 k ++ List.replicate (N - k) (List.replicate 6 (0 : Int))).flatten).set (k * 6 + k) 1 = (units6 (k + 1) ++ List.replicate (N - (k + 1)) (List.replicate 6 (0 : Int))).flatten ∧
      (fl6 (units6 k ++ List.replicate (N - k) (List.replicate 6 (0 : Int))))[k * 6 + k]? = some (.int .i64 0) := by
    have hN : N = 1 ∨ N = 2 ∨ N = 3 ∨ N = 4 ∨ N = 5 ∨ N = 6 := by omega
    intro k hk
    have hk6 : k = 0 ∨ k = 1 ∨ k = 2 ∨ k = 3 ∨ k = 4 ∨ k = 5 := by omega
    rcases hN with rfl | rfl | rfl | rfl | rfl | rfl <;> rcases hk6 with rfl | rfl | rfl | rfl | rfl | rfl <;> first | omega | exact ⟨by decide, rfl⟩
  have hmade : ∀ W : World, W.heap.size = w.heap.size + 1 → (W.alloc (.cells (madeCells #[.int .i64 0, .int .i64 0, .int .i64 0, .int .i64 0, .int .i64 0, .int .i64 0] (N * 6)) 137)).ownsRow (w.heap.size + 1) 137 6 (.slice (some ⟨w.heap.size + 1, 0, none⟩) N N) N (fl6 (units6 0 ++ List.replicate (N - 0) (List.replicate 6 (0 : Int)))) := fun W hW => by
    have h := World.ownsRow_lit (base := w.heap.size + 1) (e := 137) (size := 6) W (madeCells #[.int .i64 0, .int .i64 0, .int .i64 0, .int .i64 0, .int .i64 0, .int .i64 0] (N * 6)) N (by omega) (by unfold maxLen; omega) (by simp [size_madeCells])
    rw [hW] at h
    have e : (madeCells #[Value.int .i64 0, .int .i64 0, .int .i64 0, .int .i64 0, .int .i64 0, .int .i64 0] (N * 6)).toList = fl6 (units6 0 ++ List.replicate (N - 0) (List.replicate 6 (0 : Int))) := by
      have e1 : (List.replicate N (List.replicate 6 (0 : Int))).flatten = List.replicate (N * 6) 0 := List.flatten_replicate_replicate
      rw [made6, Nat.sub_zero, show units6 0 = [] from rfl, List.nil_append, fl6, e1, List.map_replicate]
    rw [e] at h
    exact h
  have HST := Lib.hid hst
  have HM := Lib.hid hmade
  clear hst hmade hi hz0 hz1 hz2
  go_enter Try.func113, Try.ntmps113
  go_wp2
  clear hmk
  go_loopw [9] (fun i wr => ∃ k : Nat, k ≤ N ∧ i = .int .i64 k ∧ wr.ownsRow (w.heap.size + 1) 137 6 (.slice (some ⟨w.heap.size + 1, 0, none⟩) N N) N (fl6 (units6 k ++ List.replicate (N - k) (List.replicate 6 (0 : Int)))) ∧ Below w.heap.size w wr ∧
      wr.heap[w.heap.size]? = some (.cells #[.slice none 0 0] 123 (0, 0))) (fun i _ => N - (intOf i).toNat)
  case atStart => exact ⟨0, by omega, rfl, HM.out _ (by simp), (((Below.refl _ _).alloc (Nat.le_refl _) _).alloc (by simp) _), by rw [Below.heap_alloc _ _ _ (by simp)]; exact heap_alloc_new w _⟩
  case round =>
    obtain ⟨k, hk, rfl, hown, hbel, hres⟩ := hrel
    have RES := Lib.hid hres
    clear hres
    have OWN := Lib.hid hown
    have HB := Lib.hid hbel
    by_cases hlt : k < N
    · have hc : wr.cell? ⟨w.heap.size + 1, k * 6 + k, none⟩ = some (.int .i64 0) := by rw [hown.cellAt _ (by omega)]; exact (HST.out k hlt).2
      have hf : wr.frozen? ⟨w.heap.size + 1, k * 6 + k, none⟩ = false := hown.frozenAt _
      clear hown hbel
      go_wp2
      go_roundw
      case rel =>
        refine ⟨k + 1, by omega, by go_num, ?_, HB.out.setCell (by simp) _, by rw [Below.heap_setCell _ _ _ _ (by simp)]; exact RES.out⟩
        have h := (OWN.out.stored (k * 6 + k) (.int .i64 1)).1
        rw [fl6, show (Value.int .i64 1) = I 1 from rfl, ← List.map_set, (HST.out k hlt).1] at h
        exact h
      case measure => simp [intOf]; omega
    · clear hown hbel
      have hk' : k = N := by omega
      subst hk'
      have r0 : wr.cell? ⟨w.heap.size, 0, none⟩ = some (.slice none 0 0) := by rw [cell_of_row wr w.heap.size 0 _ _ (0, 0) RES.out]; rfl
      have r1 : wr.frozen? ⟨w.heap.size, 0, none⟩ = false := frozen_of_row wr w.heap.size 0 _ _ RES.out
      have r2 : ∀ v, (wr.setCell ⟨w.heap.size, 0, none⟩ v).cell? ⟨w.heap.size, 0, none⟩ = some v := fun v => cell_set_same r0 v
      go_wp2
      refine bodyPost_ret (v := .agg #[.slice (some ⟨w.heap.size + 1, 0, none⟩) k k]) (by simp [results, Try.results113, go_sem, r2]) rfl ?_
      refine ⟨_, _, rfl, ?_, HB.out.setCell (by simp) _⟩
      have h := ownsRow_setCell_below OWN.out (a := ⟨w.heap.size, 0, none⟩) (by simp) (.slice (some ⟨w.heap.size + 1, 0, none⟩) k k)
      rw [Nat.sub_self, List.replicate_zero, List.append_nil] at h
      exact own_base h (by omega)
end Go.Proofs.Ytodjnafalbbmjaa
/- The program's values of a plan: what is there, products. -/
namespace Go.Proofs.Ytodjnafalbbmjaa
open Go.RowKit

def hasB (x : Int) (n : Nat) : Bool := decide (0 ≤ x) && decide (x < n)
def hasAllB (l : List Int) (n : Nat) : Bool := l.all fun x => hasB x n

set_option maxHeartbeats 400000 in
theorem has_any (g o n c : Nat) (A : Option Addr) (x : Int) (w : World) (hc : w.cell? ⟨g, o, none⟩ = some (.slice A n c)) :
    Calls Try.prog 120 #[.pointer (some ⟨g, o, none⟩), .int .i64 x] w fun e w' => e = .returned (.bool (hasB x n)) ∧ w = w' := by
  by_cases h1 : 0 ≤ x <;> by_cases h2 : x < n
  all_goals
    go_enter Try.func120, Try.ntmps120
    go_wp2
    go_ret
    exact ⟨ret_bool (by simp [hasB, h1, h2]), rfl⟩

theorem hasAllB_take {l : List Int} {n k : Nat} (hk : k < l.length) : hasAllB (l.take (k + 1)) n = (hasAllB (l.take k) n && hasB l[k] n) := by
  unfold hasAllB
  rw [List.take_succ_eq_append_getElem hk, List.all_append]
  simp
theorem hasAllB_miss {l : List Int} {n k : Nat} (hk : k < l.length) (h : hasB l[k] n = false) : hasAllB l n = false := by
  unfold hasAllB
  rw [List.all_eq_false]
  exact ⟨_, List.getElem_mem hk, by simp [h]⟩

set_option maxHeartbeats 400000 in
theorem hasAll_any (B g o n c : Nat) (A A2 : Option Addr) (c2 : Nat) (l : List Int) (w : World) (hc : w.cell? ⟨g, o, none⟩ = some (.slice A n c)) (hm : l.length ≤ 4000000) (hr : Rd w B 1 A2 l.length (l.map I)) :
    Calls Try.prog 115 #[.pointer (some ⟨g, o, none⟩), .slice A2 l.length c2] w fun e w' => e = .returned (.bool (hasAllB l n)) ∧ w = w' := by
  have H := Lib.hid hr
  have HC := Lib.hid hc
  clear hr hc
  go_enter Try.func115, Try.ntmps115
  go_wp2
  go_loop [9] (fun i => ∃ k : Nat, k ≤ l.length ∧ i = .int .i64 k ∧ hasAllB (l.take k) n = true) (fun i => l.length - (intOf i).toNat)
  case atStart => exact ⟨0, by omega, rfl, rfl⟩
  case round =>
    obtain ⟨k, hk, rfl, hq⟩ := hrel
    have Q := Lib.hid hq
    clear hq
    by_cases hlt : k < l.length
    · obtain ⟨b, off, rfl, hb, hcell⟩ := H.out.int hlt
      obtain ⟨gi, hgi⟩ : ∃ b, hasB l[k] n = b := ⟨_, rfl⟩
      cases gi with
      | true =>
        go_wp2_with (go_at_call 120; refine (has_any _ _ _ _ _ _ _ HC.out).mono ?_; rintro e w' ⟨rfl, rfl⟩)
        go_round
        case rel => exact ⟨k + 1, by omega, by go_num, by rw [hasAllB_take hlt, Q.out, hgi]; rfl⟩
        case measure => simp [intOf]; omega
      | false =>
        go_wp2_with (go_at_call 120; refine (has_any _ _ _ _ _ _ _ HC.out).mono ?_; rintro e w' ⟨rfl, rfl⟩)
        go_ret
        exact ⟨ret_bool (hasAllB_miss hlt hgi).symm, rfl⟩
    · go_wp2
      go_ret
      refine ⟨ret_bool ?_, rfl⟩
      have := Q.out
      rw [List.take_of_length_le (by omega)] at this
      exact this.symm

/-- The product of two values, if a step may have it. -/
def mulI (rows : List (List Int)) (a b : Int) : Option (List Int) :=
  if decide (a ≤ b) && (hasB a rows.length && hasB b rows.length) then
    let r := List.zipWith (· + ·) (rows.getD a.toNat []) (rows.getD b.toNat [])
    if allB r 0 1000000 then some r else none
  else none
end Go.Proofs.Ytodjnafalbbmjaa
