/- Digits: what is asked of them, sums and weights: of both programs. -/
import Derived.Test.YtbohakifjmdoiaaN9b
import Derived.Test.YtbohakifjmdoiaaFe0
import Derived.Maps.AppendAt
namespace Go.Proofs.Ytbohakifjmdoiaa
open Go.RowKit Go.Shelf

attribute [local go_sem] Oper.semAt_some

theorem any_take9 {l : List Int} {P : Int → Bool} {k : Nat} (hk : k < l.length) (h : (l.take k).any P = false) : (l.take (k + 1)).any P = P l[k] := by
  rw [List.take_succ_eq_append_getElem hk, List.any_append, h]
  simp
theorem any_hit9 {l : List Int} {P : Int → Bool} {k : Nat} (hk : k < l.length) (h : P l[k] = true) : l.any P = true := List.any_eq_true.2 ⟨_, List.getElem_mem hk, h⟩
def dgO (v : Int) : Bool := decide (v < -1) || decide (1 < v)
theorem dgO_any (v : Int) (w : World) : Calls Try.prog 85 #[.int .i64 v] w fun e w' => e = .returned (.bool (dgO v)) ∧ w' = w := by
  by_cases h1 : v < -1
  · have E := Lib.hid (show dgO v = true by unfold dgO; simp; omega)
    go_enter Try.func85, Try.ntmps85
    go_wp2
    go_ret
    exact ⟨ret_bool (by rw [E.out]), rfl⟩
  · by_cases h2 : 1 < v
    · have E := Lib.hid (show dgO v = true by unfold dgO; simp; omega)
      go_enter Try.func85, Try.ntmps85
      go_wp2
      go_ret
      exact ⟨ret_bool (by rw [E.out]), rfl⟩
    · have E := Lib.hid (show dgO v = false by unfold dgO; simp; omega)
      go_enter Try.func85, Try.ntmps85
      go_wp2
      go_ret
      exact ⟨ret_bool (by rw [E.out]), rfl⟩
theorem any_dgO (l : List Int) : (!l.any dgO) = allB l (-1) 1 := by
  unfold allB
  induction l with
  | nil => rfl
  | cons x l ih =>
    simp only [List.any_cons, List.all_cons, Bool.not_or, ih]
    congr 1
    unfold dgO inB
    by_cases h1 : x < -1 <;> by_cases h2 : 1 < x <;> simp [h1, h2] <;> omega

set_option maxRecDepth 100000 in
set_option maxHeartbeats 1000000 in
theorem idxDg (B : Nat) (A : Option Addr) (c : Nat) (l : List Int) (w : World) (hl : l.length ≤ 1000000) (hB : B ≤ w.heap.size) (hr : Rd w B 1 A l.length (l.map I)) :
    Calls Try.prog 92 #[.slice A l.length c, .func (.func 85) #[] #[]] w fun e w' => (∃ r : Int, e = .returned (.int .i64 r) ∧ decide (0 ≤ r) = l.any dgO) ∧ w' = w := by
  have H := Lib.hid hr
  have FC := Lib.hid (fun v => dgO_any v w)
  clear hr
  go_enter Try.func92, Try.ntmps92
  go_wp2
  go_loopw [8] (fun iv wr => ∃ k : Nat, k ≤ l.length ∧ iv = .int .i64 (k : Int) ∧ (l.take k).any dgO = false ∧ wr = w) (fun i _ => l.length - (intOf i).toNat)
  case atStart => exact ⟨0, by omega, rfl, rfl, rfl⟩
  case round =>
    obtain ⟨k, hk, rfl, hno, rfl⟩ := hrel
    by_cases hlt : k < l.length
    · obtain ⟨b, off, rfl, hb, hc⟩ := H.out.int hlt
      have ik : (k : Int) < (l.length : Int) := by omega
      have NX := Lib.hid (any_take9 hlt hno)
      have HIT := Lib.hid (any_hit9 (P := dgO) hlt)
      obtain ⟨x, hx⟩ : ∃ x, l[k] = x := ⟨_, rfl⟩
      rw [hx] at hc NX HIT
      have F1 := Lib.hid (FC.out x)
      obtain ⟨t, ht⟩ : ∃ t, dgO x = t := ⟨_, rfl⟩
      have F1 := Lib.hid (show Calls Try.prog 85 #[.int .i64 x] wr fun e w' => e = .returned (.bool t) ∧ w' = wr by rw [← ht]; exact F1.out)
      have NX := Lib.hid (NX.out.trans ht)
      have HIT := Lib.hid (fun h => HIT.out (ht.trans h))
      clear hx hno ht
      cases t with
      | true =>
        have HT := Lib.hid (HIT.out rfl)
        clear HIT
        go_wp2_with fail
        refine F1.out.mono ?_
        rintro e w5 ⟨rfl, rfl⟩
        go_wp2
        go_ret
        exact ⟨⟨_, rfl, by rw [HT.out]; simp⟩, rfl⟩
      | false =>
        go_wp2_with fail
        refine F1.out.mono ?_
        rintro e w5 ⟨rfl, rfl⟩
        go_wp2
        go_roundw
        case rel => exact ⟨k + 1, by omega, by go_num, NX.out, trivial⟩
        case measure => simp [intOf]; omega
    · rw [List.take_of_length_le (by omega)] at hno
      go_wp2
      go_ret
      exact ⟨⟨_, rfl, by rw [hno]; rfl⟩, rfl⟩
theorem hasDg (B : Nat) (A : Option Addr) (c : Nat) (l : List Int) (w : World) (hl : l.length ≤ 1000000) (hB : B ≤ w.heap.size) (hr : Rd w B 1 A l.length (l.map I)) :
    Calls Try.prog 84 #[.slice A l.length c, .func (.func 85) #[] #[]] w fun e w' => e = .returned (.bool (l.any dgO)) ∧ w' = w := by
  have HI := Lib.hid (idxDg B A c l w hl hB hr)
  clear hr
  obtain ⟨t, ht⟩ : ∃ t, l.any dgO = t := ⟨_, rfl⟩
  rw [ht] at HI
  rw [ht]
  clear ht
  go_enter Try.func84, Try.ntmps84
  go_wp2_with fail
  go_at_call 92
  refine HI.out.mono ?_
  rintro e w' ⟨⟨r, rfl, hr⟩, rfl⟩
  have HR := Lib.hid hr
  clear hr
  go_wp2
  go_ret
  exact ⟨ret_bool (by rw [← HR.out]), rfl⟩
theorem isLength_any (n : Int) (w : World) : Calls Try.prog 83 #[.int .i64 n] w fun e w' => e = .returned (.bool (inB n 0 24)) ∧ w = w' := by
  by_cases h1 : 0 ≤ n <;> by_cases h2 : n ≤ 24
  all_goals
    go_enter Try.func83, Try.ntmps83
    go_wp2
    go_ret
    exact ⟨ret_bool (by simp [inB, h1, h2]), rfl⟩
theorem inB_len (l : List Int) : inB (l.length : Int) 0 24 = decide (l.length ≤ 24) := by
  unfold inB
  by_cases h : l.length ≤ 24 <;> simp [h] <;> omega
set_option maxRecDepth 100000 in
set_option maxHeartbeats 1000000 in
theorem areDigits_any (B : Nat) (A : Option Addr) (c : Nat) (l : List Int) (w : World) (hl : l.length ≤ 1000000) (hB : B ≤ w.heap.size) (hr : Rd w B 1 A l.length (l.map I)) :
    Calls Try.prog 57 #[.slice A l.length c] w fun e w' => e = .returned (.bool (isD l)) ∧ w = w' := by
  have HD := Lib.hid (hasDg B A c l w hl hB hr)
  clear hr
  obtain ⟨g, hg⟩ : ∃ g, inB (l.length : Int) 0 24 = g := ⟨_, rfl⟩
  have E := Lib.hid (show isD l = (g && !l.any dgO) by unfold isD; rw [any_dgO, ← inB_len, hg])
  have G := Lib.hid hg
  clear hg
  obtain ⟨t, ht⟩ : ∃ t, l.any dgO = t := ⟨_, rfl⟩
  rw [ht] at E HD
  clear ht
  cases g with
  | false =>
    go_enter Try.func57, Try.ntmps57
    go_wp2_with (go_at_call 83; refine (isLength_any _ _).mono ?_; rw [G.out]; rintro e w' ⟨rfl, rfl⟩)
    go_ret
    exact ⟨ret_bool (by rw [E.out]; rfl), rfl⟩
  | true =>
    go_enter Try.func57, Try.ntmps57
    go_wp2_with (first
      | (go_at_call 83; refine (isLength_any _ _).mono ?_; rw [G.out]; rintro e w' ⟨rfl, rfl⟩)
      | (go_at_call 84; refine HD.out.mono ?_; rintro e w' ⟨rfl, rfl⟩))
    go_ret
    exact ⟨ret_bool (by rw [E.out]; simp), rfl⟩
set_option maxRecDepth 100000 in
set_option maxHeartbeats 1000000 in
theorem siDigits_any (B : Nat) (A : Option Addr) (c : Nat) (l : List Int) (w : World) (hl : l.length ≤ 1000000) (hr : Rd w B 1 A l.length (l.map I)) :
    Calls Try.prog 55 #[.slice A l.length c] w fun e w' => e = .returned (.bool (isD l)) ∧ w = w' := by
  have HA := Lib.hid (l1All_any B A c l (-1) 1 w (by omega) hr)
  clear hr
  by_cases h : l.length ≤ 24
  · have ih : (l.length : Int) ≤ 24 := by omega
    have E := Lib.hid (show isD l = allB l (-1) 1 by unfold isD; simp [h])
    go_enter Try.func55, Try.ntmps55
    go_wp2_with (go_at_call 63; refine HA.out.mono ?_; rintro e w' ⟨rfl, rfl⟩)
    go_ret
    exact ⟨ret_bool (by rw [E.out]), rfl⟩
  · have ih : ¬ (l.length : Int) ≤ 24 := by omega
    have E := Lib.hid (show isD l = false by unfold isD; simp [h])
    go_enter Try.func55, Try.ntmps55
    go_wp2
    go_ret
    exact ⟨ret_bool (by rw [E.out]), rfl⟩
theorem isD_len {l : List Int} (h : isD l = true) : l.length ≤ 24 ∧ ∀ d ∈ l, -1 ≤ d ∧ d ≤ 1 := by
  unfold isD allB at h
  simp only [Bool.and_eq_true, decide_eq_true_eq, List.all_eq_true, inB] at h
  exact ⟨h.1, fun d hd => by have := h.2 d hd; simpa using this⟩

/-- The program's sum, as it goes. -/
def smS (n : Int) (x : Nat × Int) : Int := wrap64 (wrap64 (2 * n) + x.2)
def smF (p : List (Nat × Int)) : Int := p.foldl smS 0
theorem smF_snoc (p : List (Nat × Int)) (x : Nat × Int) : smF (p ++ [x]) = smS (smF p) x := by simp [smF]
theorem bwZ_rev (zs : List Int) : (bwZ zs zs.length).map (·.2) = zs.reverse := by
  apply List.ext_getElem?
  intro k
  unfold bwZ bwd
  by_cases hk : k < zs.length
  · have : zs.length - 1 - k < zs.length := by omega
    simp [hk, List.getElem?_eq_getElem this]
  · simp [hk]
theorem smF_eq {zs : List Int} (hl : zs.length ≤ 24) (h : ∀ d ∈ zs, -31 ≤ d ∧ d ≤ 31) : smF (bwZ zs zs.length) = smD zs := by
  have e : smF (bwZ zs zs.length) = ((bwZ zs zs.length).map (·.2)).foldl (fun n d => wrap64 (wrap64 (2 * n) + d)) 0 := by
    unfold smF smS
    rw [List.foldl_map]
  rw [e, bwZ_rev, List.foldl_reverse]
  clear e
  induction zs with
  | nil => rfl
  | cons d l ih =>
    have hl' : l.length ≤ 24 := by simp at hl; omega
    have hm : ∀ x ∈ l, -31 ≤ x ∧ x ≤ 31 := fun x hx => h x (by simp [hx])
    have hb := smD_bd l (M := 31) (by omega) hm
    have hd := h d (by simp)
    have hp : (31 : Int) * 2 ^ l.length ≤ 31 * 16777216 := by
      have : 2 ^ l.length ≤ 2 ^ 24 := Nat.pow_le_pow_right (by omega) hl'
      have h2 : ((2 ^ l.length : Nat) : Int) ≤ 16777216 := by omega
      rw [show ((2 ^ l.length : Nat) : Int) = 2 ^ l.length by simp] at h2
      omega
    simp only [List.foldr_cons, smD]
    rw [ih hl' hm]
    obtain ⟨s, hs⟩ : ∃ s, smD l = s := ⟨_, rfl⟩
    rw [hs] at hb ⊢
    have e1 : wrap64 (2 * s) = 2 * s := IntWalk.wrap64_in _ (by omega)
    rw [e1]
    have e2 : wrap64 (2 * s + d) = 2 * s + d := IntWalk.wrap64_in _ (by omega)
    rw [e2]
    omega

set_option maxRecDepth 100000 in
set_option maxHeartbeats 4000000 in
theorem sumOfDigits_any (B : Nat) (A : Option Addr) (c : Nat) (l : List Int) (w : World) (hB : B ≤ w.heap.size) (hl : l.length ≤ 24) (hd : ∀ d ∈ l, -31 ≤ d ∧ d ≤ 31) (hr : Rd w B 1 A l.length (l.map I)) :
    Calls Try.prog 59 #[.slice A l.length c] w fun e w' => e = .returned (.int .i64 (smD l)) ∧ Below w.heap.size w w' := by
  have H := Lib.hid hr
  have ES := Lib.hid (smF_eq hl hd)
  clear hr hd
  refine (callsIn_wide (n := 3)).1 ?_
  refine callsIn_of_wp_marks Try.func59 rfl trivial ?_ rfl
  simp only [Try.ntmps59, List.size_toArray, List.length_cons, List.length_nil, Nat.reduceAdd, Nat.reduceSub, Array.replicate_succ, Array.replicate_zero, List.push_toArray, List.append_toArray, List.nil_append, List.cons_append]
  gi_wp2_with fail
  refine ⟨trivial, ?_⟩
  gi_at_call 68
  refine (backward_in Fence.wide _ trivial rfl _ _ _ _).mono ?_
  rintro e w' ⟨rfl, hww⟩
  subst hww
  gi_wp2_with fail
  obtain ⟨w3, hw3⟩ : ∃ w3, (w.alloc (.cells #[.int .i64 0] 3)).alloc (.cells #[.slice A l.length c] 22) = w3 := ⟨_, rfl⟩
  rw [hw3]
  have hb3 : Below w.heap.size w w3 := by subst hw3; exact ((Below.refl _ _).alloc (Nat.le_refl _) _).alloc (by simp) _
  have z3 : w3.heap[w.heap.size]? = some (.cells #[.int .i64 0] 3 (0, 0)) := by
    subst hw3
    rw [Below.heap_alloc _ _ _ (by simp)]
    exact heap_alloc_new w _
  have z4 : w3.heap[w.heap.size + 1]? = some (.cells #[.slice A l.length c] 22 (0, 0)) := by
    subst hw3
    have := heap_alloc_new (w.alloc (.cells #[.int .i64 0] 3)) (.cells #[.slice A l.length c] 22)
    rw [World.size_alloc] at this
    exact this
  have s3 : w3.heap.size = w.heap.size + 2 := by subst hw3; simp
  have HB3 := Lib.hid hb3
  have HR := Lib.hid (show ∀ W', Below w.heap.size w3 W' → Rd W' w.heap.size 1 A l.length (l.map I) from fun W' h => (H.out.below' (HB3.out.trans h) hB).more hB)
  have Z3 := Lib.hid z3
  clear hw3 hb3 z3
  refine wpIn_rangeFunc_ownG (w0 := w3) rfl (by omega) (gf := 87) (lb := #[.pointer (some ⟨w.heap.size + 1, 0, none⟩)]) rfl trivial (enters_of Try.func87 (by kernel_rfl) rfl)
    (backward_stops Fence.wide _ trivial rfl (by omega) (w.heap.size + 1) w.heap.size A c l (by omega) w3 (by omega) z4 HR.out) kpB_t (kpB_b (by omega) (by omega)) (Below.refl _ _) (fun _ => rfl)
    (fun pre W => (∃ n, smF pre = n ∧ W.heap[w.heap.size]? = some (.cells #[.int .i64 n] 3 (0, 0))) ∧ Below w.heap.size w W)
    (fun _ _ _ => False)
    (OwnFrom.and (Own.from (fun s A B row hs hg hr => by obtain ⟨n, e1, e2⟩ := hs; exact ⟨n, e1, blk_own e2 hg hr⟩) _) (ownFrom_below (Nat.le_refl _) (by omega)))
    (fun _ _ _ _ _ hs _ _ => hs)
    ⟨⟨0, rfl, Z3.out⟩, HB3.out⟩
    (fun x => { tmps := #[.slice A l.length c, undef, .int .i64 0, .pointer (some ⟨w.heap.size, 0, none⟩), undef, .int .i64 x.2, .slice A l.length c, .func (.func 87) #[] #[.pointer (some ⟨w.heap.size + 1, 0, none⟩)], .int .i64 (x.1 : Int), .int .i64 x.2, undef, undef, undef, undef, undef], defers := [] }) ?assign ?body ?done ?stop
  case assign =>
    intro l x W K hK
    gi_wp2
    exact hK
  case body =>
    rintro lr pre ⟨i, d⟩ W ⟨⟨z, hz, hbx⟩, hbel⟩ _
    have EF := Lib.hid (show smF (pre ++ [(i, d)]) = smS z (i, d) by rw [smF_snoc, hz])
    have BEL := Lib.hid hbel
    have BX := Lib.hid hbx
    obtain ⟨x0, f0⟩ := one_cell hbx
    clear hbx hbel hz
    dsimp only
    gi_wp2
    exact ⟨(KeepsOthers.setCell _ _ _).from _, ⟨(Below.refl w.heap.size W).setCell (by simp) _, fun _ => set_other (by omega)⟩, ⟨_, EF.out, one_set BX.out rfl⟩, BEL.out.setCell (by simp) _⟩
  case done =>
    rintro D' ys W hD' rfl ⟨⟨z, hz, hbx⟩, hbel⟩ hK
    rw [ES.out] at hz
    subst hz
    obtain ⟨x0, f0⟩ := one_cell hbx
    have BEL := Lib.hid hbel
    clear hbel hbx
    gi_wp2
    refine ⟨by simp, .inl ⟨_, _, rfl, run_takeDeferred hK, ?_⟩⟩
    exact ⟨_, results_tmp rfl _ _ _, rfl, BEL.out.trans (belowK_b (w := w) (Nat.le_refl _) W D' _ _ (by omega) hK rfl rfl)⟩
  case stop =>
    rintro D' c' pre W _ _ h _
    exact h.elim
end Go.Proofs.Ytbohakifjmdoiaa
