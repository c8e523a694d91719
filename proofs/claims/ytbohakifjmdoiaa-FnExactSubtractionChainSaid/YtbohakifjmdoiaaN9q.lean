/- Subtraction chains: what is made, IsSubtractionChain of both programs. -/
import Derived.Test.YtbohakifjmdoiaaN9c
namespace Go.Proofs.Ytbohakifjmdoiaa
open Go.RowKit

theorem Rd.take9 {w : World} {B : Nat} {A : Option Addr} {l : List Int} (h : Rd w B 1 A l.length (l.map I)) {n : Nat} (hn : n ≤ l.length) : Rd w B 1 A n ((l.take n).map I) := by
  refine ⟨by simp; omega, fun h0 => ?_⟩
  obtain ⟨b, off, e, hb, hc⟩ := h.2 (by omega)
  refine ⟨b, off, e, hb, fun j hj => ?_⟩
  rw [hc j (by omega), List.map_take, List.getElem?_take]
  simp [show j < n by omega]
theorem hasI_iff {l : List Int} {n : Int} : hasI l n = true ↔ n ∈ l := by unfold hasI; simp
def madeM (s : List Int) (n : Int) : Bool := s.any (fun a => hasI s (n - a) || hasI s (n + a))
def madeP (s : List Int) (n : Int) : Bool := s.any (fun a => hasI s (n - a)) || s.any (fun a => hasI s (a - n))
theorem madeM_eq (s : List Int) (n : Int) : madeM s n = madeP s n := by
  unfold madeM madeP
  rw [Bool.eq_iff_iff]
  simp only [List.any_eq_true, Bool.or_eq_true, hasI_iff]
  constructor
  · rintro ⟨a, ha, h | h⟩
    · exact .inl ⟨a, ha, h⟩
    · exact .inr ⟨n + a, h, by rw [show n + a - n = a by omega]; exact ha⟩
  · rintro (⟨a, ha, h⟩ | ⟨a, ha, h⟩)
    · exact ⟨a, ha, .inl h⟩
    · exact ⟨a - n, h, .inr (by rw [show n + (a - n) = a by omega]; exact ha)⟩
/-- The numbers behind the first, up to so many. -/
def isK (l : List Int) : Nat → Bool
  | 0 => true
  | k + 1 => isK l k && (match l[k + 1]? with | some n => inB n 1 1000000 && (!hasI (l.take (k + 1)) n && madeP (l.take (k + 1)) n) | none => false)
def isS (l : List Int) : Bool := inB l.length 1 41 && (l.head? == some 1 && isK l (l.length - 1))
theorem isK_succ {l : List Int} {k : Nat} (hk : k + 1 < l.length) : isK l (k + 1) = (isK l k && (inB l[k + 1] 1 1000000 && (!hasI (l.take (k + 1)) l[k + 1] && madeP (l.take (k + 1)) l[k + 1]))) := by
  simp only [isK, List.getElem?_eq_getElem hk]
theorem isK_mono {l : List Int} {k : Nat} (h : isK l k = true) : ∀ j, j ≤ k → isK l j = true := by
  induction k with
  | zero => intro j hj; have : j = 0 := by omega
            subst this; rfl
  | succ k ih =>
    intro j hj
    rcases Nat.lt_or_eq_of_le hj with h1 | h1
    · exact ih (by simp only [isK, Bool.and_eq_true] at h; exact h.1) j (by omega)
    · subst h1; exact h
theorem isK_miss {l : List Int} {k : Nat} (hk : k + 1 < l.length) (h : (inB l[k + 1] 1 1000000 && (!hasI (l.take (k + 1)) l[k + 1] && madeP (l.take (k + 1)) l[k + 1])) = false) : isS l = false := by
  unfold isS
  cases hg : isK l (l.length - 1) with
  | false => simp
  | true =>
    have := isK_mono hg (k + 1) (by omega)
    rw [isK_succ hk, h] at this
    simp at this
theorem isK_all {l : List Int} {k : Nat} (h : isK l k = true) (hk : k < l.length) (h0 : l.head? = some 1) : ∀ v ∈ l.take (k + 1), 1 ≤ v ∧ v ≤ 1000000 := by
  induction k with
  | zero =>
    intro v hv
    cases l with
    | nil => cases h0
    | cons a l =>
      simp at h0
      subst h0
      simp at hv
      omega
  | succ k ih =>
    intro v hv
    have hk' : k + 1 < l.length := hk
    rw [isK_succ hk'] at h
    simp only [Bool.and_eq_true] at h
    rw [List.take_succ_eq_append_getElem hk'] at hv
    rcases List.mem_append.1 hv with h1 | h1
    · exact ih h.1 (by omega) v h1
    · have h2 := h.2.1
      simp only [List.mem_singleton] at h1
      subst h1
      simpa [inB] using h2
theorem isS_all {l : List Int} (h : allB l 1 1000000 = false) : isS l = false := by
  cases hg : isS l with
  | false => rfl
  | true =>
    unfold isS at hg
    simp only [Bool.and_eq_true, beq_iff_eq] at hg
    have hl : 1 ≤ l.length := by have h1 := hg.1; simp [inB] at h1; omega
    have := isK_all hg.2.2 (by omega) hg.2.1
    rw [show l.length - 1 + 1 = l.length by omega, List.take_length] at this
    unfold allB at h
    rw [List.all_eq_false] at h
    obtain ⟨x, hx, hb⟩ := h
    have := this x hx
    simp [inB, this] at hb
theorem isS_len {l : List Int} (h : inB (l.length : Int) 1 41 = false) : isS l = false := by unfold isS; rw [h]; rfl
theorem isS_head {l : List Int} (hl : 0 < l.length) (h : l[0] ≠ 1) : isS l = false := by
  unfold isS
  cases l with
  | nil => simp at hl
  | cons a l =>
    have h : ¬ a = 1 := h
    simp [h]
theorem isS_end {l : List Int} (h1 : inB (l.length : Int) 1 41 = true) (hl : 0 < l.length) (h : l[0] = 1) (hk : isK l (l.length - 1) = true) : isS l = true := by
  unfold isS
  rw [h1, hk]
  cases l with
  | nil => simp at hl
  | cons a l =>
    have h : a = 1 := h
    simp [h]
theorem head_of {l : List Int} (hl : 0 < l.length) (h : l[0] = 1) : l.head? = some 1 := by
  cases l with
  | nil => simp at hl
  | cons a l =>
    have h : a = 1 := h
    simp [h]

set_option maxRecDepth 100000 in
set_option maxHeartbeats 1000000 in
theorem index9_any (B : Nat) (A : Option Addr) (c : Nat) (l : List Int) (n : Int) (w : World) (hm : l.length ≤ 4000000) (hr : Rd w B 1 A l.length (l.map I)) :
    Calls Try.prog 88 #[.slice A l.length c, .int .i64 n] w fun e w' => (∃ r : Int, e = .returned (.int .i64 r) ∧ decide (0 ≤ r) = hasI l n) ∧ w = w' := by
  have H := Lib.hid hr
  clear hr
  go_enter Try.func88, Try.ntmps88
  go_wp2
  go_loopw [8] (fun iv wr => ∃ k : Nat, k ≤ l.length ∧ iv = .int .i64 k ∧ hasI (l.take k) n = false ∧ w = wr) (fun i _ => l.length - (intOf i).toNat)
  case atStart => exact ⟨0, by omega, rfl, by simp [hasI], rfl⟩
  case round =>
    obtain ⟨k, hk, rfl, hno, rfl⟩ := hrel
    have NO := Lib.hid hno
    clear hno
    by_cases hlt : k < l.length
    · have iqk : (k : Int) < (l.length : Int) := by omega
      obtain ⟨b, off, rfl, hb, hc⟩ := H.out.int hlt
      obtain ⟨x, hx⟩ : ∃ x, l[k] = x := ⟨_, rfl⟩
      have HX := Lib.hid hx
      rw [hx] at hc
      clear hx
      by_cases he : n = x
      · have q1 : (n == x) = true := by simpa using he
        have E := Lib.hid (show hasI l n = true from hasI_hit hlt (by rw [HX.out, he]; simp))
        clear he
        go_wp2
        go_ret
        exact ⟨⟨_, rfl, by rw [E.out]; simp⟩, rfl⟩
      · have q1 : (n == x) = false := by simpa using he
        have E := Lib.hid (show hasI (l.take (k + 1)) n = false by rw [hasI_take hlt NO.out, HX.out]; simpa using fun e => he e.symm)
        clear he
        go_wp2
        go_roundw
        case rel => exact ⟨k + 1, by omega, by go_num, E.out, trivial⟩
        case measure => simp [intOf]; omega
    · have E := Lib.hid (hasI_end hlt NO.out)
      go_wp2
      go_ret
      exact ⟨⟨_, rfl, by rw [E.out]; rfl⟩, rfl⟩
theorem contains9_any (B : Nat) (A : Option Addr) (c : Nat) (l : List Int) (n : Int) (w : World) (hm : l.length ≤ 4000000) (hr : Rd w B 1 A l.length (l.map I)) :
    Calls Try.prog 73 #[.slice A l.length c, .int .i64 n] w fun e w' => e = .returned (.bool (hasI l n)) ∧ w = w' := by
  have HI := Lib.hid (index9_any B A c l n w hm hr)
  clear hr
  go_enter Try.func73, Try.ntmps73
  go_wp2_with fail
  go_at_call 88
  refine HI.out.mono ?_
  rintro e w2 ⟨⟨r, rfl, hr⟩, rfl⟩
  have E := Lib.hid hr
  clear hr
  go_wp2
  go_ret
  exact ⟨ret_bool E.out, rfl⟩
theorem box2m {w w1 : World} {a b : Value} {t : TypeId} (h : w.alloc (.cells #[a, b] t) = w1) :
    w1.cell? ⟨w.heap.size, 0, none⟩ = some a ∧ w1.cell? ⟨w.heap.size, 1, none⟩ = some b ∧ w1.heap.size = w.heap.size + 1 ∧ Below w.heap.size w w1 := by
  subst h
  refine ⟨?_, ?_, by simp, (Below.refl _ _).alloc (Nat.le_refl _) _⟩ <;> (rw [World.cell?_alloc_at _ _ _ _ rfl]; rfl)

set_option maxRecDepth 100000 in
set_option maxHeartbeats 2000000 in
theorem isSumWith_any (B : Nat) (A : Option Addr) (c : Nat) (s : List Int) (n a : Int) (w : World) (hm : s.length ≤ 4000000) (hn : 1 ≤ n ∧ n ≤ 1000000) (ha : 1 ≤ a ∧ a ≤ 1000000) (hB : B ≤ w.heap.size) (hr : Rd w B 1 A s.length (s.map I)) :
    Calls Try.prog 89 #[.agg #[.int .i64 n, .slice A s.length c], .int .i64 a] w fun e w' => e = .returned (.bool (hasI s (n - a))) ∧ Below w.heap.size w w' := by
  have H := Lib.hid hr
  obtain ⟨hn1, hn2⟩ := hn
  obtain ⟨ha1, ha2⟩ := ha
  obtain ⟨D, hD⟩ : ∃ D, n - a = D := ⟨_, rfl⟩
  have e1 : IntKind.i64.wrap (n - a) = D := by rw [hD]; exact IntWalk.i64_in _ (by omega)
  have e2 : wrap64 (n - a) = D := by rw [hD]; exact IntWalk.wrap64_in _ (by omega)
  rw [hD]
  clear hr
  go_enter Try.func89, Try.ntmps89
  go_wp2_with fail
  go_at_call 73
  generalize hw1 : World.alloc w _ = w1
  obtain ⟨x0, x1, xs, xb⟩ := box2m hw1
  clear hw1
  have XB := Lib.hid xb
  have CT := contains9_any B A c s D w1 hm (H.out.below' xb hB)
  refine CT.mono ?_
  rintro e w2 ⟨rfl, rfl⟩
  clear x0 x1 xs xb CT
  go_wp2
  go_ret
  exact ⟨rfl, XB.out⟩

set_option maxRecDepth 100000 in
set_option maxHeartbeats 2000000 in
theorem idx_isSumWith (B : Nat) (A : Option Addr) (c : Nat) (s : List Int) (n : Int) (w : World) (hm : s.length ≤ 4000000) (hn : 1 ≤ n ∧ n ≤ 1000000) (hall : ∀ v ∈ s, 1 ≤ v ∧ v ≤ 1000000) (hB : B ≤ w.heap.size) (hr : Rd w B 1 A s.length (s.map I)) :
    Calls Try.prog 92 #[.slice A s.length c, .func (.func 89) #[.agg #[.int .i64 n, .slice A s.length c]] #[]] w fun e w' => (∃ r : Int, e = .returned (.int .i64 r) ∧ decide (0 ≤ r) = s.any (fun a => hasI s (n - a))) ∧ Below w.heap.size w w' := by
  have H := Lib.hid hr
  have HA := Lib.hid hall
  have FC := Lib.hid (fun (a : Int) (ha : 1 ≤ a ∧ a ≤ 1000000) (W : World) (hb : Below w.heap.size w W) => isSumWith_any B A c s n a W hm hn ha (Nat.le_trans hB hb.size) (hr.below' hb hB))
  clear hr hall
  go_enter Try.func92, Try.ntmps92
  go_wp2
  go_loopw [8] (fun iv wr => ∃ k : Nat, k ≤ s.length ∧ iv = .int .i64 (k : Int) ∧ (s.take k).any (fun a => hasI s (n - a)) = false ∧ Below w.heap.size w wr) (fun i _ => s.length - (intOf i).toNat)
  case atStart => exact ⟨0, by omega, rfl, rfl, Below.refl _ _⟩
  case round =>
    obtain ⟨k, hk, rfl, hno, hbel⟩ := hrel
    have hs := hbel.size
    by_cases hlt : k < s.length
    · obtain ⟨b, off, eA, hb, hc⟩ := (H.out.below' hbel hB).int hlt
      have ik : (k : Int) < (s.length : Int) := by omega
      have NX := Lib.hid (any_take9 hlt hno)
      have HIT := Lib.hid (any_hit9 (P := fun a => hasI s (n - a)) hlt)
      have hx0 := HA.out _ (List.getElem_mem hlt)
      obtain ⟨x, hx⟩ : ∃ x, s[k] = x := ⟨_, rfl⟩
      rw [hx] at hc NX HIT hx0
      have F1 := FC.out x hx0 wr hbel
      obtain ⟨t, ht⟩ : ∃ t, (fun a => hasI s (n - a)) x = t := ⟨_, rfl⟩
      have F1 := Lib.hid (show Calls Try.prog 89 #[.agg #[.int .i64 n, .slice A s.length c], .int .i64 x] wr fun e w' => e = .returned (.bool t) ∧ Below wr.heap.size wr w' by rw [← ht]; exact F1)
      have NX := Lib.hid (NX.out.trans ht)
      have HIT := Lib.hid (fun h => HIT.out (ht.trans h))
      have BEL := Lib.hid hbel
      clear hx hno ht hbel
      subst eA
      cases t with
      | true =>
        have HT := Lib.hid (HIT.out rfl)
        clear HIT
        go_wp2_with fail
        refine F1.out.mono ?_
        rintro e w5 ⟨rfl, hb5⟩
        have B5 := Lib.hid (BEL.out.trans (hb5.mono hs))
        clear hb5
        go_wp2
        go_ret
        exact ⟨⟨_, rfl, by rw [HT.out]; simp⟩, B5.out⟩
      | false =>
        go_wp2_with fail
        refine F1.out.mono ?_
        rintro e w5 ⟨rfl, hb5⟩
        have B5 := Lib.hid (BEL.out.trans (hb5.mono hs))
        clear hb5
        go_wp2
        go_roundw
        case rel => exact ⟨k + 1, by omega, by go_num, NX.out, B5.out⟩
        case measure => simp [intOf]; omega
    · rw [List.take_of_length_le (by omega)] at hno
      have NO := Lib.hid hno
      clear hno
      go_wp2
      go_ret
      exact ⟨⟨_, rfl, by rw [NO.out]; rfl⟩, hbel⟩
theorem has_isSumWith (B : Nat) (A : Option Addr) (c : Nat) (s : List Int) (n : Int) (w : World) (hm : s.length ≤ 4000000) (hn : 1 ≤ n ∧ n ≤ 1000000) (hall : ∀ v ∈ s, 1 ≤ v ∧ v ≤ 1000000) (hB : B ≤ w.heap.size) (hr : Rd w B 1 A s.length (s.map I)) :
    Calls Try.prog 84 #[.slice A s.length c, .func (.func 89) #[.agg #[.int .i64 n, .slice A s.length c]] #[]] w fun e w' => e = .returned (.bool (s.any (fun a => hasI s (n - a)))) ∧ Below w.heap.size w w' := by
  have HI := Lib.hid (idx_isSumWith B A c s n w hm hn hall hB hr)
  clear hr
  obtain ⟨t, ht⟩ : ∃ t, s.any (fun a => hasI s (n - a)) = t := ⟨_, rfl⟩
  rw [ht] at HI
  rw [ht]
  clear ht
  go_enter Try.func84, Try.ntmps84
  go_wp2_with fail
  go_at_call 92
  refine HI.out.mono ?_
  rintro e w' ⟨⟨r, rfl, hr⟩, hb⟩
  have HR := Lib.hid hr
  clear hr
  go_wp2
  go_ret
  exact ⟨ret_bool (by rw [← HR.out]), hb⟩

set_option maxRecDepth 100000 in
set_option maxHeartbeats 2000000 in
theorem isDifferenceFrom_any (B : Nat) (A : Option Addr) (c : Nat) (s : List Int) (n a : Int) (w : World) (hm : s.length ≤ 4000000) (hn : 1 ≤ n ∧ n ≤ 1000000) (ha : 1 ≤ a ∧ a ≤ 1000000) (hB : B ≤ w.heap.size) (hr : Rd w B 1 A s.length (s.map I)) :
    Calls Try.prog 90 #[.agg #[.int .i64 n, .slice A s.length c], .int .i64 a] w fun e w' => e = .returned (.bool (hasI s (a - n))) ∧ Below w.heap.size w w' := by
  have H := Lib.hid hr
  obtain ⟨hn1, hn2⟩ := hn
  obtain ⟨ha1, ha2⟩ := ha
  obtain ⟨D, hD⟩ : ∃ D, a - n = D := ⟨_, rfl⟩
  have e1 : IntKind.i64.wrap (a - n) = D := by rw [hD]; exact IntWalk.i64_in _ (by omega)
  have e2 : wrap64 (a - n) = D := by rw [hD]; exact IntWalk.wrap64_in _ (by omega)
  rw [hD]
  clear hr
  go_enter Try.func90, Try.ntmps90
  go_wp2_with fail
  go_at_call 73
  generalize hw1 : World.alloc w _ = w1
  obtain ⟨x0, x1, xs, xb⟩ := box2m hw1
  clear hw1
  have XB := Lib.hid xb
  have CT := contains9_any B A c s D w1 hm (H.out.below' xb hB)
  refine CT.mono ?_
  rintro e w2 ⟨rfl, rfl⟩
  clear x0 x1 xs xb CT
  go_wp2
  go_ret
  exact ⟨rfl, XB.out⟩

set_option maxRecDepth 100000 in
set_option maxHeartbeats 2000000 in
theorem idx_isDifferenceFrom (B : Nat) (A : Option Addr) (c : Nat) (s : List Int) (n : Int) (w : World) (hm : s.length ≤ 4000000) (hn : 1 ≤ n ∧ n ≤ 1000000) (hall : ∀ v ∈ s, 1 ≤ v ∧ v ≤ 1000000) (hB : B ≤ w.heap.size) (hr : Rd w B 1 A s.length (s.map I)) :
    Calls Try.prog 92 #[.slice A s.length c, .func (.func 90) #[.agg #[.int .i64 n, .slice A s.length c]] #[]] w fun e w' => (∃ r : Int, e = .returned (.int .i64 r) ∧ decide (0 ≤ r) = s.any (fun a => hasI s (a - n))) ∧ Below w.heap.size w w' := by
  have H := Lib.hid hr
  have HA := Lib.hid hall
  have FC := Lib.hid (fun (a : Int) (ha : 1 ≤ a ∧ a ≤ 1000000) (W : World) (hb : Below w.heap.size w W) => isDifferenceFrom_any B A c s n a W hm hn ha (Nat.le_trans hB hb.size) (hr.below' hb hB))
  clear hr hall
  go_enter Try.func92, Try.ntmps92
  go_wp2
  go_loopw [8] (fun iv wr => ∃ k : Nat, k ≤ s.length ∧ iv = .int .i64 (k : Int) ∧ (s.take k).any (fun a => hasI s (a - n)) = false ∧ Below w.heap.size w wr) (fun i _ => s.length - (intOf i).toNat)
  case atStart => exact ⟨0, by omega, rfl, rfl, Below.refl _ _⟩
  case round =>
    obtain ⟨k, hk, rfl, hno, hbel⟩ := hrel
    have hs := hbel.size
    by_cases hlt : k < s.length
    · obtain ⟨b, off, eA, hb, hc⟩ := (H.out.below' hbel hB).int hlt
      have ik : (k : Int) < (s.length : Int) := by omega
      have NX := Lib.hid (any_take9 hlt hno)
      have HIT := Lib.hid (any_hit9 (P := fun a => hasI s (a - n)) hlt)
      have hx0 := HA.out _ (List.getElem_mem hlt)
      obtain ⟨x, hx⟩ : ∃ x, s[k] = x := ⟨_, rfl⟩
      rw [hx] at hc NX HIT hx0
      have F1 := FC.out x hx0 wr hbel
      obtain ⟨t, ht⟩ : ∃ t, (fun a => hasI s (a - n)) x = t := ⟨_, rfl⟩
      have F1 := Lib.hid (show Calls Try.prog 90 #[.agg #[.int .i64 n, .slice A s.length c], .int .i64 x] wr fun e w' => e = .returned (.bool t) ∧ Below wr.heap.size wr w' by rw [← ht]; exact F1)
      have NX := Lib.hid (NX.out.trans ht)
      have HIT := Lib.hid (fun h => HIT.out (ht.trans h))
      have BEL := Lib.hid hbel
      clear hx hno ht hbel
      subst eA
      cases t with
      | true =>
        have HT := Lib.hid (HIT.out rfl)
        clear HIT
        go_wp2_with fail
        refine F1.out.mono ?_
        rintro e w5 ⟨rfl, hb5⟩
        have B5 := Lib.hid (BEL.out.trans (hb5.mono hs))
        clear hb5
        go_wp2
        go_ret
        exact ⟨⟨_, rfl, by rw [HT.out]; simp⟩, B5.out⟩
      | false =>
        go_wp2_with fail
        refine F1.out.mono ?_
        rintro e w5 ⟨rfl, hb5⟩
        have B5 := Lib.hid (BEL.out.trans (hb5.mono hs))
        clear hb5
        go_wp2
        go_roundw
        case rel => exact ⟨k + 1, by omega, by go_num, NX.out, B5.out⟩
        case measure => simp [intOf]; omega
    · rw [List.take_of_length_le (by omega)] at hno
      have NO := Lib.hid hno
      clear hno
      go_wp2
      go_ret
      exact ⟨⟨_, rfl, by rw [NO.out]; rfl⟩, hbel⟩
theorem has_isDifferenceFrom (B : Nat) (A : Option Addr) (c : Nat) (s : List Int) (n : Int) (w : World) (hm : s.length ≤ 4000000) (hn : 1 ≤ n ∧ n ≤ 1000000) (hall : ∀ v ∈ s, 1 ≤ v ∧ v ≤ 1000000) (hB : B ≤ w.heap.size) (hr : Rd w B 1 A s.length (s.map I)) :
    Calls Try.prog 84 #[.slice A s.length c, .func (.func 90) #[.agg #[.int .i64 n, .slice A s.length c]] #[]] w fun e w' => e = .returned (.bool (s.any (fun a => hasI s (a - n)))) ∧ Below w.heap.size w w' := by
  have HI := Lib.hid (idx_isDifferenceFrom B A c s n w hm hn hall hB hr)
  clear hr
  obtain ⟨t, ht⟩ : ∃ t, s.any (fun a => hasI s (a - n)) = t := ⟨_, rfl⟩
  rw [ht] at HI
  rw [ht]
  clear ht
  go_enter Try.func84, Try.ntmps84
  go_wp2_with fail
  go_at_call 92
  refine HI.out.mono ?_
  rintro e w' ⟨⟨r, rfl, hr⟩, hb⟩
  have HR := Lib.hid hr
  clear hr
  go_wp2
  go_ret
  exact ⟨ret_bool (by rw [← HR.out]), hb⟩
end Go.Proofs.Ytbohakifjmdoiaa
