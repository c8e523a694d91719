/- Digits: what is asked of them, sums and weights: of both programs. -/
import Derived.Test.YtbohakifjmdoiabDoorN9b
import Derived.Test.YtbohakifjmdoiabDoorFe0
import Derived.Maps.AppendAt
namespace Go.Proofs.YtbohakifjmdoiabDoor
open Go.RowKit Go.Shelf

attribute [local go_sem] Oper.semAt_some

theorem any_take9 {l : List Int} {P : Int → Bool} {k : Nat} (hk : k < l.length) (h : (l.take k).any P = false) : (l.take (k + 1)).any P = P l[k] := by
  rw [List.take_succ_eq_append_getElem hk, List.any_append, h]
  simp
theorem any_hit9 {l : List Int} {P : Int → Bool} {k : Nat} (hk : k < l.length) (h : P l[k] = true) : l.any P = true := List.any_eq_true.2 ⟨_, List.getElem_mem hk, h⟩
def dgO (v : Int) : Bool := decide (v < -1) || decide (1 < v)
theorem dgO_any (v : Int) (w : World) : Calls Tryd.prog 22 #[.int .i64 v] w fun e w' => e = .returned (.bool (dgO v)) ∧ w' = w := by
  by_cases h1 : v < -1
  · have E := Lib.hid (show dgO v = true by unfold dgO; simp; omega)
    go_enter Tryd.func22, Tryd.ntmps22
    go_wp2
    go_ret
    exact ⟨ret_bool (by rw [E.out]), rfl⟩
  · by_cases h2 : 1 < v
    · have E := Lib.hid (show dgO v = true by unfold dgO; simp; omega)
      go_enter Tryd.func22, Tryd.ntmps22
      go_wp2
      go_ret
      exact ⟨ret_bool (by rw [E.out]), rfl⟩
    · have E := Lib.hid (show dgO v = false by unfold dgO; simp; omega)
      go_enter Tryd.func22, Tryd.ntmps22
      go_wp2
      go_ret
      exact ⟨ret_bool (by rw [E.out]), rfl⟩
theorem any_dgO (l : List Int) : (!l.any dgO) = allB l (-1) 1 := by
  unfold allB
  induction l with
  | nil => rfl
  | cons x l ih =>
    simp only [List.any_cons, List.all_cons, Bool.not_or, ih]
    congr 1
    unfold dgO inB
    by_cases h1 : x < -1 <;> by_cases h2 : 1 < x <;> simp [h1, h2] <;> omega

set_option maxRecDepth 100000 in
set_option maxHeartbeats 1000000 in
theorem idxDg (B : Nat) (A : Option Addr) (c : Nat) (l : List Int) (w : World) (hl : l.length ≤ 1000000) (hB : B ≤ w.heap.size) (hr : Rd w B 1 A l.length (l.map I)) :
    Calls Tryd.prog 25 #[.slice A l.length c, .func (.func 22) #[] #[]] w fun e w' => (∃ r : Int, e = .returned (.int .i64 r) ∧ decide (0 ≤ r) = l.any dgO) ∧ w' = w := by
  have H := Lib.hid hr
  have FC := Lib.hid (fun v => dgO_any v w)
  clear hr
  go_enter Tryd.func25, Tryd.ntmps25
  go_wp2
  go_loopw [8] (fun iv wr => ∃ k : Nat, k ≤ l.length ∧ iv = .int .i64 (k : Int) ∧ (l.take k).any dgO = false ∧ wr = w) (fun i _ => l.length - (intOf i).toNat)
  case atStart => exact ⟨0, by omega, rfl, rfl, rfl⟩
  case round =>
    obtain ⟨k, hk, rfl, hno, rfl⟩ := hrel
    by_cases hlt : k < l.length
    · obtain ⟨b, off, rfl, hb, hc⟩ := H.out.int hlt
      have ik : (k : Int) < (l.length : Int) := by omega
      have NX := Lib.hid (any_take9 hlt hno)
      have HIT := Lib.hid (any_hit9 (P := dgO) hlt)
      obtain ⟨x, hx⟩ : ∃ x, l[k] = x := ⟨_, rfl⟩
      rw [hx] at hc NX HIT
      have F1 := Lib.hid (FC.out x)
      obtain ⟨t, ht⟩ : ∃ t, dgO x = t := ⟨_, rfl⟩
      have F1 := Lib.hid (show Calls Tryd.prog 22 #[.int .i64 x] wr fun e w' => e = .returned (.bool t) ∧ w' = wr by rw [← ht]; exact F1.out)
      have NX := Lib.hid (NX.out.trans ht)
      have HIT := Lib.hid (fun h => HIT.out (ht.trans h))
      clear hx hno ht
      cases t with
      | true =>
        have HT := Lib.hid (HIT.out rfl)
        clear HIT
        go_wp2_with fail
        refine F1.out.mono ?_
        rintro e w5 ⟨rfl, rfl⟩
        go_wp2
        go_ret
        exact ⟨⟨_, rfl, by rw [HT.out]; simp⟩, rfl⟩
      | false =>
        go_wp2_with fail
        refine F1.out.mono ?_
        rintro e w5 ⟨rfl, rfl⟩
        go_wp2
        go_roundw
        case rel => exact ⟨k + 1, by omega, by go_num, NX.out, trivial⟩
        case measure => simp [intOf]; omega
    · rw [List.take_of_length_le (by omega)] at hno
      go_wp2
      go_ret
      exact ⟨⟨_, rfl, by rw [hno]; rfl⟩, rfl⟩
theorem hasDg (B : Nat) (A : Option Addr) (c : Nat) (l : List Int) (w : World) (hl : l.length ≤ 1000000) (hB : B ≤ w.heap.size) (hr : Rd w B 1 A l.length (l.map I)) :
    Calls Tryd.prog 21 #[.slice A l.length c, .func (.func 22) #[] #[]] w fun e w' => e = .returned (.bool (l.any dgO)) ∧ w' = w := by
  have HI := Lib.hid (idxDg B A c l w hl hB hr)
  clear hr
  obtain ⟨t, ht⟩ : ∃ t, l.any dgO = t := ⟨_, rfl⟩
  rw [ht] at HI
  rw [ht]
  clear ht
  go_enter Tryd.func21, Tryd.ntmps21
  go_wp2_with fail
  go_at_call 25
  refine HI.out.mono ?_
  rintro e w' ⟨⟨r, rfl, hr⟩, rfl⟩
  have HR := Lib.hid hr
  clear hr
  go_wp2
  go_ret
  exact ⟨ret_bool (by rw [← HR.out]), rfl⟩
theorem isLength_any (n : Int) (w : World) : Calls Tryd.prog 17 #[.int .i64 n] w fun e w' => e = .returned (.bool (inB n 0 24)) ∧ w = w' := by
  by_cases h1 : 0 ≤ n <;> by_cases h2 : n ≤ 24
  all_goals
    go_enter Tryd.func17, Tryd.ntmps17
    go_wp2
    go_ret
    exact ⟨ret_bool (by simp [inB, h1, h2]), rfl⟩
theorem inB_len (l : List Int) : inB (l.length : Int) 0 24 = decide (l.length ≤ 24) := by
  unfold inB
  by_cases h : l.length ≤ 24 <;> simp [h] <;> omega
set_option maxRecDepth 100000 in
set_option maxHeartbeats 1000000 in
theorem areDigits_any (B : Nat) (A : Option Addr) (c : Nat) (l : List Int) (w : World) (hl : l.length ≤ 1000000) (hB : B ≤ w.heap.size) (hr : Rd w B 1 A l.length (l.map I)) :
    Calls Tryd.prog 14 #[.slice A l.length c] w fun e w' => e = .returned (.bool (isD l)) ∧ w = w' := by
  have HD := Lib.hid (hasDg B A c l w hl hB hr)
  clear hr
  obtain ⟨g, hg⟩ : ∃ g, inB (l.length : Int) 0 24 = g := ⟨_, rfl⟩
  have E := Lib.hid (show isD l = (g && !l.any dgO) by unfold isD; rw [any_dgO, ← inB_len, hg])
  have G := Lib.hid hg
  clear hg
  obtain ⟨t, ht⟩ : ∃ t, l.any dgO = t := ⟨_, rfl⟩
  rw [ht] at E HD
  clear ht
  cases g with
  | false =>
    go_enter Tryd.func14, Tryd.ntmps14
    go_wp2_with (go_at_call 17; refine (isLength_any _ _).mono ?_; rw [G.out]; rintro e w' ⟨rfl, rfl⟩)
    go_ret
    exact ⟨ret_bool (by rw [E.out]; rfl), rfl⟩
  | true =>
    go_enter Tryd.func14, Tryd.ntmps14
    go_wp2_with (first
      | (go_at_call 17; refine (isLength_any _ _).mono ?_; rw [G.out]; rintro e w' ⟨rfl, rfl⟩)
      | (go_at_call 21; refine HD.out.mono ?_; rintro e w' ⟨rfl, rfl⟩))
    go_ret
    exact ⟨ret_bool (by rw [E.out]; simp), rfl⟩
set_option maxRecDepth 100000 in
set_option maxHeartbeats 1000000 in
theorem siDigits_any (B : Nat) (A : Option Addr) (c : Nat) (l : List Int) (w : World) (hl : l.length ≤ 1000000) (hr : Rd w B 1 A l.length (l.map I)) :
    Calls Tryd.prog 13 #[.slice A l.length c] w fun e w' => e = .returned (.bool (isD l)) ∧ w = w' := by
  have HA := Lib.hid (l1All_any B A c l (-1) 1 w (by omega) hr)
  clear hr
  by_cases h : l.length ≤ 24
  · have ih : (l.length : Int) ≤ 24 := by omega
    have E := Lib.hid (show isD l = allB l (-1) 1 by unfold isD; simp [h])
    go_enter Tryd.func13, Tryd.ntmps13
    go_wp2_with (go_at_call 20; refine HA.out.mono ?_; rintro e w' ⟨rfl, rfl⟩)
    go_ret
    exact ⟨ret_bool (by rw [E.out]), rfl⟩
  · have ih : ¬ (l.length : Int) ≤ 24 := by omega
    have E := Lib.hid (show isD l = false by unfold isD; simp [h])
    go_enter Tryd.func13, Tryd.ntmps13
    go_wp2
    go_ret
    exact ⟨ret_bool (by rw [E.out]), rfl⟩
theorem isD_len {l : List Int} (h : isD l = true) : l.length ≤ 24 ∧ ∀ d ∈ l, -1 ≤ d ∧ d ≤ 1 := by
  unfold isD allB at h
  simp only [Bool.and_eq_true, decide_eq_true_eq, List.all_eq_true, inB] at h
  exact ⟨h.1, fun d hd => by have := h.2 d hd; simpa using this⟩

/-- The program's sum, as it goes. -/
def smS (n : Int) (x : Nat × Int) : Int := wrap64 (wrap64 (2 * n) + x.2)
def smF (p : List (Nat × Int)) : Int := p.foldl smS 0
theorem smF_snoc (p : List (Nat × Int)) (x : Nat × Int) : smF (p ++ [x]) = smS (smF p) x := by simp [smF]
theorem bwZ_rev (zs : List Int) : (bwZ zs zs.length).map (·.2) = zs.reverse := by
  apply List.ext_getElem?
  intro k
  unfold bwZ bwd
  by_cases hk : k < zs.length
  · have : zs.length - 1 - k < zs.length := by omega
    simp [hk, List.getElem?_eq_getElem this]
  · simp [hk]
theorem smF_eq {zs : List Int} (hl : zs.length ≤ 24) (h : ∀ d ∈ zs, -31 ≤ d ∧ d ≤ 31) : smF (bwZ zs zs.length) = smD zs := by
  have e : smF (bwZ zs zs.length) = ((bwZ zs zs.length).map (·.2)).foldl (fun n d => wrap64 (wrap64 (2 * n) + d)) 0 := by
    unfold smF smS
    rw [List.foldl_map]
  rw [e, bwZ_rev, List.foldl_reverse]
  clear e
  induction zs with
  | nil => rfl
  | cons d l ih =>
    have hl' : l.length ≤ 24 := by simp at hl; omega
    have hm : ∀ x ∈ l, -31 ≤ x ∧ x ≤ 31 := fun x hx => h x (by simp [hx])
    have hb := smD_bd l (M := 31) (by omega) hm
    have hd := h d (by simp)
    have hp : (31 : Int) * 2 ^ l.length ≤ 31 * 16777216 := by
      have : 2 ^ l.length ≤ 2 ^ 24 := Nat.pow_le_pow_right (by omega) hl'
      have h2 : ((2 ^ l.length : Nat) : Int) ≤ 16777216 := by omega
      rw [show ((2 ^ l.length : Nat) : Int) = 2 ^ l.length by simp] at h2
      omega
    simp only [List.foldr_cons, smD]
    rw [ih hl' hm]
    obtain ⟨s, hs⟩ : ∃ s, smD l = s := ⟨_, rfl⟩
    rw [hs] at hb ⊢
    have e1 : wrap64 (2 * s) = 2 * s := IntWalk.wrap64_in _ (by omega)
    rw [e1]
    have e2 : wrap64 (2 * s + d) = 2 * s + d := IntWalk.wrap64_in _ (by omega)
    rw [e2]
    omega

end Go.Proofs.YtbohakifjmdoiabDoor
