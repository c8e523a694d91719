/- What an op is, what it needs, whether it may follow; lists whose numbers fit. -/
import Derived.Test.YtpopomcaknbhnaaH8b
import Derived.Test.YtpopomcaknbhnaaH8p
namespace Go.Proofs.Ytpopomcaknbhnaa
open Go.RowKit
theorem as_con_con (W : World) (a : Int) : (Instr.typeAssert (.iface 150 (.agg #[.int .i64 a])) 20 150 true).run Try.prog W = .ok (.tuple #[.agg #[.int .i64 a], .bool true]) W := by kernel_rfl
theorem as_con_sum (W : World) (a : Int) : (Instr.typeAssert (.iface 150 (.agg #[.int .i64 a])) 20 157 true).run Try.prog W = .ok (.tuple #[.agg #[.int .i64 0, .int .i64 0], .bool false]) W := by kernel_rfl
theorem as_con_sca (W : World) (a : Int) : (Instr.typeAssert (.iface 150 (.agg #[.int .i64 a])) 20 152 true).run Try.prog W = .ok (.tuple #[.agg #[.int .i64 0, .int .i64 0], .bool false]) W := by kernel_rfl
theorem as_con_pro (W : World) (a : Int) : (Instr.typeAssert (.iface 150 (.agg #[.int .i64 a])) 20 159 true).run Try.prog W = .ok (.tuple #[.agg #[.int .i64 0, .int .i64 0], .bool false]) W := by kernel_rfl
theorem ne_con_nil (W : World) (a : Int) : (binOp .eql 20 (.iface 150 (.agg #[.int .i64 a])) .nilIface).run Try.prog W = .ok (.bool false) W := by kernel_rfl
theorem as_sum_con (W : World) (a b : Int) : (Instr.typeAssert (.iface 157 (.agg #[.int .i64 a, .int .i64 b])) 20 150 true).run Try.prog W = .ok (.tuple #[.agg #[.int .i64 0], .bool false]) W := by kernel_rfl
theorem as_sum_sum (W : World) (a b : Int) : (Instr.typeAssert (.iface 157 (.agg #[.int .i64 a, .int .i64 b])) 20 157 true).run Try.prog W = .ok (.tuple #[.agg #[.int .i64 a, .int .i64 b], .bool true]) W := by kernel_rfl
theorem as_sum_sca (W : World) (a b : Int) : (Instr.typeAssert (.iface 157 (.agg #[.int .i64 a, .int .i64 b])) 20 152 true).run Try.prog W = .ok (.tuple #[.agg #[.int .i64 0, .int .i64 0], .bool false]) W := by kernel_rfl
theorem as_sum_pro (W : World) (a b : Int) : (Instr.typeAssert (.iface 157 (.agg #[.int .i64 a, .int .i64 b])) 20 159 true).run Try.prog W = .ok (.tuple #[.agg #[.int .i64 0, .int .i64 0], .bool false]) W := by kernel_rfl
theorem ne_sum_nil (W : World) (a b : Int) : (binOp .eql 20 (.iface 157 (.agg #[.int .i64 a, .int .i64 b])) .nilIface).run Try.prog W = .ok (.bool false) W := by kernel_rfl
theorem as_sca_con (W : World) (a b : Int) : (Instr.typeAssert (.iface 152 (.agg #[.int .i64 a, .int .i64 b])) 20 150 true).run Try.prog W = .ok (.tuple #[.agg #[.int .i64 0], .bool false]) W := by kernel_rfl
theorem as_sca_sum (W : World) (a b : Int) : (Instr.typeAssert (.iface 152 (.agg #[.int .i64 a, .int .i64 b])) 20 157 true).run Try.prog W = .ok (.tuple #[.agg #[.int .i64 0, .int .i64 0], .bool false]) W := by kernel_rfl
theorem as_sca_sca (W : World) (a b : Int) : (Instr.typeAssert (.iface 152 (.agg #[.int .i64 a, .int .i64 b])) 20 152 true).run Try.prog W = .ok (.tuple #[.agg #[.int .i64 a, .int .i64 b], .bool true]) W := by kernel_rfl
theorem as_sca_pro (W : World) (a b : Int) : (Instr.typeAssert (.iface 152 (.agg #[.int .i64 a, .int .i64 b])) 20 159 true).run Try.prog W = .ok (.tuple #[.agg #[.int .i64 0, .int .i64 0], .bool false]) W := by kernel_rfl
theorem ne_sca_nil (W : World) (a b : Int) : (binOp .eql 20 (.iface 152 (.agg #[.int .i64 a, .int .i64 b])) .nilIface).run Try.prog W = .ok (.bool false) W := by kernel_rfl
theorem as_pro_con (W : World) (a b : Int) : (Instr.typeAssert (.iface 159 (.agg #[.int .i64 a, .int .i64 b])) 20 150 true).run Try.prog W = .ok (.tuple #[.agg #[.int .i64 0], .bool false]) W := by kernel_rfl
theorem as_pro_sum (W : World) (a b : Int) : (Instr.typeAssert (.iface 159 (.agg #[.int .i64 a, .int .i64 b])) 20 157 true).run Try.prog W = .ok (.tuple #[.agg #[.int .i64 0, .int .i64 0], .bool false]) W := by kernel_rfl
theorem as_pro_sca (W : World) (a b : Int) : (Instr.typeAssert (.iface 159 (.agg #[.int .i64 a, .int .i64 b])) 20 152 true).run Try.prog W = .ok (.tuple #[.agg #[.int .i64 0, .int .i64 0], .bool false]) W := by kernel_rfl
theorem as_pro_pro (W : World) (a b : Int) : (Instr.typeAssert (.iface 159 (.agg #[.int .i64 a, .int .i64 b])) 20 159 true).run Try.prog W = .ok (.tuple #[.agg #[.int .i64 a, .int .i64 b], .bool true]) W := by kernel_rfl
theorem ne_pro_nil (W : World) (a b : Int) : (binOp .eql 20 (.iface 159 (.agg #[.int .i64 a, .int .i64 b])) .nilIface).run Try.prog W = .ok (.bool false) W := by kernel_rfl
theorem as_nil_con (W : World) : (Instr.typeAssert .nilIface 20 150 true).run Try.prog W = .ok (.tuple #[.agg #[.int .i64 0], .bool false]) W := by kernel_rfl
theorem as_nil_sum (W : World) : (Instr.typeAssert .nilIface 20 157 true).run Try.prog W = .ok (.tuple #[.agg #[.int .i64 0, .int .i64 0], .bool false]) W := by kernel_rfl
theorem as_nil_sca (W : World) : (Instr.typeAssert .nilIface 20 152 true).run Try.prog W = .ok (.tuple #[.agg #[.int .i64 0, .int .i64 0], .bool false]) W := by kernel_rfl
theorem as_nil_pro (W : World) : (Instr.typeAssert .nilIface 20 159 true).run Try.prog W = .ok (.tuple #[.agg #[.int .i64 0, .int .i64 0], .bool false]) W := by kernel_rfl
theorem eq_nil_nil (W : World) : (binOp .eql 20 .nilIface .nilIface).run Try.prog W = .ok (.bool true) W := by kernel_rfl

theorem isCoef_any (n : Int) (w : World) : Calls Try.prog 71 #[.int .i64 n] w fun e w' => e = .returned (.bool (isC n)) ∧ w' = w := by
  by_cases h1 : -1000000 ≤ n
  · by_cases h2 : n ≤ 1000000
    · have E := Lib.hid (show isC n = true from isC_iff.2 ⟨h1, h2⟩)
      go_enter Try.func71, Try.ntmps71
      go_wp2
      go_ret
      exact ⟨ret_bool (by rw [E.out]), rfl⟩
    · have E := Lib.hid (show isC n = false by unfold isC; simp; omega)
      have h3 : ¬ (n ≤ 1000000) := h2
      go_enter Try.func71, Try.ntmps71
      go_wp2
      go_ret
      exact ⟨ret_bool (by rw [E.out]), rfl⟩
  · have E := Lib.hid (show isC n = false by unfold isC; simp; omega)
    go_enter Try.func71, Try.ntmps71
    go_wp2
    go_ret
    exact ⟨ret_bool (by rw [E.out]), rfl⟩
theorem fitsC_any (n : Int) (w : World) : Calls Try.prog 141 #[.int .i64 n] w fun e w' => e = .returned (.bool (!isC n)) ∧ w' = w := by
  have HC := Lib.hid (isCoef_any n w)
  obtain ⟨t, ht⟩ : ∃ t, isC n = t := ⟨_, rfl⟩
  rw [ht] at HC
  rw [ht]
  clear ht
  go_enter Try.func141, Try.ntmps141
  go_wp2_with (go_at_call 71; refine HC.out.mono ?_; rintro e w' ⟨rfl, rfl⟩)
  go_ret
  exact ⟨rfl, rfl⟩
def outV (n : Nat) (v : Int) : Bool := decide (v < 0) || decide ((n : Int) ≤ v)
theorem followC_any (g n : Nat) (v : Int) (w : World) (hg : w.cell? ⟨g, 0, none⟩ = some (.int .i64 (n : Int))) : Calls Try.prog 140 #[.int .i64 v, .pointer (some ⟨g, 0, none⟩)] w fun e w' => e = .returned (.bool (outV n v)) ∧ w' = w := by
  by_cases h1 : v < 0
  · have E := Lib.hid (show outV n v = true by unfold outV; simp; omega)
    go_enter Try.func140, Try.ntmps140
    go_wp2
    go_ret
    exact ⟨ret_bool (by rw [E.out]), rfl⟩
  · by_cases h2 : (n : Int) ≤ v
    · have E := Lib.hid (show outV n v = true by unfold outV; simp; omega)
      go_enter Try.func140, Try.ntmps140
      go_wp2
      go_ret
      exact ⟨ret_bool (by rw [E.out]), rfl⟩
    · have E := Lib.hid (show outV n v = false by unfold outV; simp; omega)
      go_enter Try.func140, Try.ntmps140
      go_wp2
      go_ret
      exact ⟨ret_bool (by rw [E.out]), rfl⟩
theorem any_take {l : List Int} {P : Int → Bool} {k : Nat} (hk : k < l.length) (h : (l.take k).any P = false) : (l.take (k + 1)).any P = P l[k] := by
  rw [List.take_succ_eq_append_getElem hk, List.any_append, h]
  simp
theorem any_hit {l : List Int} {P : Int → Bool} {k : Nat} (hk : k < l.length) (h : P l[k] = true) : l.any P = true := List.any_eq_true.2 ⟨_, List.getElem_mem hk, h⟩

set_option maxRecDepth 100000 in
set_option maxHeartbeats 1000000 in
theorem idxFit (B : Nat) (A : Option Addr) (c : Nat) (l : List Int) (w : World) (hl : l.length ≤ 1000000) (hB : B ≤ w.heap.size) (hr : Rd w B 1 A l.length (l.map I)) :
    Calls Try.prog 154 #[.slice A l.length c, .func (.func 141) #[] #[]] w fun e w' => (∃ r : Int, e = .returned (.int .i64 r) ∧ decide (0 ≤ r) = l.any (fun v => !isC v)) ∧ w' = w := by
  have H := Lib.hid hr
  have FC := Lib.hid (fun v => fitsC_any v w)
  clear hr
  go_enter Try.func154, Try.ntmps154
  go_wp2
  go_loopw [8] (fun iv wr => ∃ k : Nat, k ≤ l.length ∧ iv = .int .i64 (k : Int) ∧ (l.take k).any (fun v => !isC v) = false ∧ wr = w) (fun i _ => l.length - (intOf i).toNat)
  case atStart => exact ⟨0, by omega, rfl, rfl, rfl⟩
  case round =>
    obtain ⟨k, hk, rfl, hno, rfl⟩ := hrel
    by_cases hlt : k < l.length
    · obtain ⟨b, off, rfl, hb, hc⟩ := H.out.int hlt
      have ik : (k : Int) < (l.length : Int) := by omega
      have NX := Lib.hid (any_take hlt hno)
      have HIT := Lib.hid (any_hit (P := fun v => !isC v) hlt)
      obtain ⟨x, hx⟩ : ∃ x, l[k] = x := ⟨_, rfl⟩
      rw [hx] at hc NX HIT
      have F1 := Lib.hid (FC.out x)
      obtain ⟨t, ht⟩ : ∃ t, (fun v => !isC v) x = t := ⟨_, rfl⟩
      have F1 := Lib.hid (show Calls Try.prog 141 #[.int .i64 x] wr fun e w' => e = .returned (.bool t) ∧ w' = wr by rw [← ht]; exact F1.out)
      have NX := Lib.hid (NX.out.trans ht)
      have HIT := Lib.hid (fun h => HIT.out (ht.trans h))
      clear hx hno ht
      cases t with
      | true =>
        have HT := Lib.hid (HIT.out rfl)
        clear HIT
        go_wp2_with fail
        refine F1.out.mono ?_
        rintro e w5 ⟨rfl, rfl⟩
        go_wp2
        go_ret
        exact ⟨⟨_, rfl, by rw [HT.out]; simp⟩, rfl⟩
      | false =>
        go_wp2_with fail
        refine F1.out.mono ?_
        rintro e w5 ⟨rfl, rfl⟩
        go_wp2
        go_roundw
        case rel => exact ⟨k + 1, by omega, by go_num, NX.out, trivial⟩
        case measure => simp [intOf]; omega
    · rw [List.take_of_length_le (by omega)] at hno
      go_wp2
      go_ret
      exact ⟨⟨_, rfl, by rw [hno]; rfl⟩, rfl⟩
theorem hasFit (B : Nat) (A : Option Addr) (c : Nat) (l : List Int) (w : World) (hl : l.length ≤ 1000000) (hB : B ≤ w.heap.size) (hr : Rd w B 1 A l.length (l.map I)) :
    Calls Try.prog 138 #[.slice A l.length c, .func (.func 141) #[] #[]] w fun e w' => e = .returned (.bool (l.any (fun v => !isC v))) ∧ w' = w := by
  have HI := Lib.hid (idxFit B A c l w hl hB hr)
  clear hr
  obtain ⟨t, ht⟩ : ∃ t, l.any (fun v => !isC v) = t := ⟨_, rfl⟩
  rw [ht] at HI
  rw [ht]
  clear ht
  go_enter Try.func138, Try.ntmps138
  go_wp2_with fail
  go_at_call 154
  refine HI.out.mono ?_
  rintro e w' ⟨⟨r, rfl, hr⟩, rfl⟩
  have HR := Lib.hid hr
  clear hr
  go_wp2
  go_ret
  exact ⟨ret_bool (by rw [← HR.out]), rfl⟩

set_option maxRecDepth 100000 in
set_option maxHeartbeats 1000000 in
theorem idxFol (B : Nat) (A : Option Addr) (c : Nat) (l : List Int) (g n : Nat) (w : World) (hl : l.length ≤ 1000000) (hB : B ≤ w.heap.size) (hr : Rd w B 1 A l.length (l.map I)) (hg : w.cell? ⟨g, 0, none⟩ = some (.int .i64 (n : Int))) :
    Calls Try.prog 154 #[.slice A l.length c, .func (.func 140) #[] #[.pointer (some ⟨g, 0, none⟩)]] w fun e w' => (∃ r : Int, e = .returned (.int .i64 r) ∧ decide (0 ≤ r) = l.any (fun v => outV n v)) ∧ w' = w := by
  have H := Lib.hid hr
  have FC := Lib.hid (fun v => followC_any g n v w hg)
  clear hr hg
  go_enter Try.func154, Try.ntmps154
  go_wp2
  go_loopw [8] (fun iv wr => ∃ k : Nat, k ≤ l.length ∧ iv = .int .i64 (k : Int) ∧ (l.take k).any (fun v => outV n v) = false ∧ wr = w) (fun i _ => l.length - (intOf i).toNat)
  case atStart => exact ⟨0, by omega, rfl, rfl, rfl⟩
  case round =>
    obtain ⟨k, hk, rfl, hno, rfl⟩ := hrel
    by_cases hlt : k < l.length
    · obtain ⟨b, off, rfl, hb, hc⟩ := H.out.int hlt
      have ik : (k : Int) < (l.length : Int) := by omega
      have NX := Lib.hid (any_take hlt hno)
      have HIT := Lib.hid (any_hit (P := fun v => outV n v) hlt)
      obtain ⟨x, hx⟩ : ∃ x, l[k] = x := ⟨_, rfl⟩
      rw [hx] at hc NX HIT
      have F1 := Lib.hid (FC.out x)
      obtain ⟨t, ht⟩ : ∃ t, (fun v => outV n v) x = t := ⟨_, rfl⟩
      have F1 := Lib.hid (show Calls Try.prog 140 #[.int .i64 x, .pointer (some ⟨g, 0, none⟩)] wr fun e w' => e = .returned (.bool t) ∧ w' = wr by rw [← ht]; exact F1.out)
      have NX := Lib.hid (NX.out.trans ht)
      have HIT := Lib.hid (fun h => HIT.out (ht.trans h))
      clear hx hno ht
      cases t with
      | true =>
        have HT := Lib.hid (HIT.out rfl)
        clear HIT
        go_wp2_with fail
        refine F1.out.mono ?_
        rintro e w5 ⟨rfl, rfl⟩
        go_wp2
        go_ret
        exact ⟨⟨_, rfl, by rw [HT.out]; simp⟩, rfl⟩
      | false =>
        go_wp2_with fail
        refine F1.out.mono ?_
        rintro e w5 ⟨rfl, rfl⟩
        go_wp2
        go_roundw
        case rel => exact ⟨k + 1, by omega, by go_num, NX.out, trivial⟩
        case measure => simp [intOf]; omega
    · rw [List.take_of_length_le (by omega)] at hno
      go_wp2
      go_ret
      exact ⟨⟨_, rfl, by rw [hno]; rfl⟩, rfl⟩
theorem hasFol (B : Nat) (A : Option Addr) (c : Nat) (l : List Int) (g n : Nat) (w : World) (hl : l.length ≤ 1000000) (hB : B ≤ w.heap.size) (hr : Rd w B 1 A l.length (l.map I)) (hg : w.cell? ⟨g, 0, none⟩ = some (.int .i64 (n : Int))) :
    Calls Try.prog 138 #[.slice A l.length c, .func (.func 140) #[] #[.pointer (some ⟨g, 0, none⟩)]] w fun e w' => e = .returned (.bool (l.any (fun v => outV n v))) ∧ w' = w := by
  have HI := Lib.hid (idxFol B A c l g n w hl hB hr hg)
  clear hr hg
  obtain ⟨t, ht⟩ : ∃ t, l.any (fun v => outV n v) = t := ⟨_, rfl⟩
  rw [ht] at HI
  rw [ht]
  clear ht
  go_enter Try.func138, Try.ntmps138
  go_wp2_with fail
  go_at_call 154
  refine HI.out.mono ?_
  rintro e w' ⟨⟨r, rfl, hr⟩, rfl⟩
  have HR := Lib.hid hr
  clear hr
  go_wp2
  go_ret
  exact ⟨ret_bool (by rw [← HR.out]), rfl⟩

theorem all_any (l : List Int) : l.all isC = !l.any fun v => !isC v := by
  rw [List.not_any_eq_all_not]
  simp
set_option maxRecDepth 100000 in
set_option maxHeartbeats 1000000 in
theorem fits_any (B : Nat) (A : Option Addr) (c : Nat) (l : List Int) (w : World) (hl : l.length ≤ 1000000) (hB : B ≤ w.heap.size) (hr : Rd w B 1 A l.length (l.map I)) :
    Calls Try.prog 113 #[.slice A l.length c] w fun e w' => e = .returned (.bool (fitB l)) ∧ w' = w := by
  have HF := Lib.hid (hasFit B A c l w hl hB hr)
  have E := Lib.hid (show fitB l = (decide (l.length ≤ 17) && !l.any fun v => !isC v) by unfold fitB; rw [all_any])
  obtain ⟨t, ht⟩ : ∃ t, (l.any fun v => !isC v) = t := ⟨_, rfl⟩
  rw [ht] at HF E
  clear hr ht
  by_cases h : l.length ≤ 17
  · have E2 := Lib.hid (show fitB l = !t by rw [E.out, decide_eq_true h]; rfl)
    have ih : (l.length : Int) ≤ 17 := by omega
    go_enter Try.func113, Try.ntmps113
    go_wp2_with (go_at_call 138; refine HF.out.mono ?_; rintro e w' ⟨rfl, rfl⟩)
    go_ret
    exact ⟨ret_bool (by rw [E2.out]), rfl⟩
  · have E2 := Lib.hid (show fitB l = false by rw [E.out, decide_eq_false h]; rfl)
    have ih : ¬ (l.length : Int) ≤ 17 := by omega
    go_enter Try.func113, Try.ntmps113
    go_wp2
    go_ret
    exact ⟨ret_bool (by rw [E2.out]), rfl⟩

/-- What an op is, as a value. -/
def opI (o : Op3) : Value :=
  if o.1 = 0 then (if o.2.2 = 0 then .iface 150 (.agg #[.int .i64 o.2.1]) else .nilIface)
  else if o.1 = 1 then .iface 157 (.agg #[.int .i64 o.2.1, .int .i64 o.2.2])
  else if o.1 = 2 then .iface 152 (.agg #[.int .i64 o.2.1, .int .i64 o.2.2])
  else if o.1 = 3 then .iface 159 (.agg #[.int .i64 o.2.1, .int .i64 o.2.2])
  else .nilIface
set_option maxRecDepth 100000 in
set_option maxHeartbeats 2000000 in
theorem operation_any (k a b : Int) (w : World) : Calls Try.prog 137 #[.agg #[.int .i64 k, .int .i64 a, .int .i64 b]] w fun e w' => e = .returned (opI (k, a, b)) ∧ Below w.heap.size w w' := by
  have HB := Lib.hid (fun o => (Below.refl w.heap.size w).alloc (Nat.le_refl _) o)
  by_cases h0 : k = 0
  · by_cases hb : b = 0
    · have E := Lib.hid (show opI (k, a, b) = .iface 150 (.agg #[.int .i64 a]) by unfold opI; rw [if_pos h0, if_pos hb])
      have q0 : (k == 0) = true := by simpa using h0
      have q1 : (b == 0) = true := by simpa using hb
      clear h0 hb
      go_enter Try.func137, Try.ntmps137
      go_wp2
      go_ret
      exact ⟨by rw [E.out]; rfl, HB.out _⟩
    · have E := Lib.hid (show opI (k, a, b) = .nilIface by unfold opI; rw [if_pos h0, if_neg hb])
      have q0 : (k == 0) = true := by simpa using h0
      have q1 : (b == 0) = false := by simpa using hb
      clear h0 hb
      go_enter Try.func137, Try.ntmps137
      go_wp2
      go_ret
      exact ⟨by rw [E.out]; rfl, HB.out _⟩
  · have q0 : (k == 0) = false := by simpa using h0
    by_cases h1 : k = 1
    · have E := Lib.hid (show opI (k, a, b) = .iface 157 (.agg #[.int .i64 a, .int .i64 b]) by unfold opI; rw [if_neg h0, if_pos h1])
      have q1 : (k == 1) = true := by simpa using h1
      clear h0 h1
      go_enter Try.func137, Try.ntmps137
      go_wp2
      go_ret
      exact ⟨by rw [E.out]; rfl, HB.out _⟩
    · have q1 : (k == 1) = false := by simpa using h1
      by_cases h2 : k = 2
      · have E := Lib.hid (show opI (k, a, b) = .iface 152 (.agg #[.int .i64 a, .int .i64 b]) by unfold opI; rw [if_neg h0, if_neg h1, if_pos h2])
        have q2 : (k == 2) = true := by simpa using h2
        clear h0 h1 h2
        go_enter Try.func137, Try.ntmps137
        go_wp2
        go_ret
        exact ⟨by rw [E.out]; rfl, HB.out _⟩
      · have q2 : (k == 2) = false := by simpa using h2
        by_cases h3 : k = 3
        · have E := Lib.hid (show opI (k, a, b) = .iface 159 (.agg #[.int .i64 a, .int .i64 b]) by unfold opI; rw [if_neg h0, if_neg h1, if_neg h2, if_pos h3])
          have q3 : (k == 3) = true := by simpa using h3
          clear h0 h1 h2 h3
          go_enter Try.func137, Try.ntmps137
          go_wp2
          go_ret
          exact ⟨by rw [E.out]; rfl, HB.out _⟩
        · have E := Lib.hid (show opI (k, a, b) = .nilIface by unfold opI; rw [if_neg h0, if_neg h1, if_neg h2, if_neg h3])
          have q3 : (k == 3) = false := by simpa using h3
          clear h0 h1 h2 h3
          go_enter Try.func137, Try.ntmps137
          go_wp2
          go_ret
          exact ⟨by rw [E.out]; rfl, HB.out _⟩
/-- What an op is: one of five. -/
theorem op_five (o : Op3) : (o.1 = 0 ∧ o.2.2 = 0 ∧ opI o = .iface 150 (.agg #[.int .i64 o.2.1])) ∨ (o.1 = 1 ∧ opI o = .iface 157 (.agg #[.int .i64 o.2.1, .int .i64 o.2.2])) ∨ (o.1 = 2 ∧ opI o = .iface 152 (.agg #[.int .i64 o.2.1, .int .i64 o.2.2])) ∨
    (o.1 = 3 ∧ opI o = .iface 159 (.agg #[.int .i64 o.2.1, .int .i64 o.2.2])) ∨ (opI o = .nilIface ∧ ∀ n, opOk o n = false) := by
  by_cases h0 : o.1 = 0
  · by_cases hb : o.2.2 = 0
    · exact .inl ⟨h0, hb, by unfold opI; rw [if_pos h0, if_pos hb]⟩
    · exact .inr (.inr (.inr (.inr ⟨by unfold opI; rw [if_pos h0, if_neg hb], fun n => by unfold opOk; rw [if_pos h0, decide_eq_false hb, Bool.and_false]⟩)))
  · by_cases h1 : o.1 = 1
    · exact .inr (.inl ⟨h1, by unfold opI; rw [if_neg h0, if_pos h1]⟩)
    · by_cases h2 : o.1 = 2
      · exact .inr (.inr (.inl ⟨h2, by unfold opI; rw [if_neg h0, if_neg h1, if_pos h2]⟩))
      · by_cases h3 : o.1 = 3
        · exact .inr (.inr (.inr (.inl ⟨h3, by unfold opI; rw [if_neg h0, if_neg h1, if_neg h2, if_pos h3]⟩)))
        · exact .inr (.inr (.inr (.inr ⟨by unfold opI; rw [if_neg h0, if_neg h1, if_neg h2, if_neg h3], fun n => by unfold opOk; rw [if_neg h0, if_neg (by omega), if_neg h2]⟩)))
/-- What an op needs. -/
def ndL (o : Op3) : List Int := if o.1 = 1 ∨ o.1 = 3 then [o.2.1, o.2.2] else if o.1 = 2 then [o.2.1] else []
theorem ndL_len (o : Op3) : (ndL o).length ≤ 2 := by
  unfold ndL
  split
  · simp
  · split <;> simp
theorem two_own {w : World} (a b : Int) : OwI (w.alloc (.cells #[.int .i64 a, .int .i64 b] 3)) w.heap.size (.slice (some ⟨w.heap.size, 0, none⟩) 2 2) [a, b] := by
  have h := World.ownsRow_lit (base := w.heap.size) (e := 3) (size := 1) w #[.int .i64 a, .int .i64 b] 2 (Nat.le_refl _) (by unfold maxLen; omega) (by simp)
  exact h
theorem one_own {w : World} (a : Int) : OwI (w.alloc (.cells #[.int .i64 a] 3)) w.heap.size (.slice (some ⟨w.heap.size, 0, none⟩) 1 1) [a] := by
  have h := World.ownsRow_lit (base := w.heap.size) (e := 3) (size := 1) w #[.int .i64 a] 1 (Nat.le_refl _) (by unfold maxLen; omega) (by simp)
  exact h

set_option maxRecDepth 100000 in
set_option maxHeartbeats 2000000 in
theorem needs_any (o : Op3) (w : World) (hk : opI o ≠ .nilIface) : Calls Try.prog 139 #[.agg #[.int .i64 o.1, .int .i64 o.2.1, .int .i64 o.2.2]] w fun e w' => ∃ A c, e = .returned (.slice A (ndL o).length c) ∧ OwI w' w.heap.size (.slice A (ndL o).length c) (ndL o) ∧ Below w.heap.size w w' := by
  have OPN := Lib.hid (fun W => operation_any o.1 o.2.1 o.2.2 W)
  rcases op_five o with ⟨h1, h2, h3⟩ | ⟨h1, h3⟩ | ⟨h1, h3⟩ | ⟨h1, h3⟩ | ⟨h3, _⟩
  · have E := Lib.hid (show ndL o = [] by unfold ndL; rw [h1]; rfl)
    have O1 := Lib.hid (show ∀ W, Calls Try.prog 137 #[.agg #[.int .i64 o.1, .int .i64 o.2.1, .int .i64 o.2.2]] W fun e w' => e = .returned (.iface 150 (.agg #[.int .i64 o.2.1])) ∧ Below W.heap.size W w' from fun W => by have h := OPN.out W; rw [show opI (o.1, o.2.1, o.2.2) = opI o from rfl, h3] at h; exact h)
    rw [E.out]
    clear h1 h3 h2 hk
    have ksum := fun W => as_con_sum W o.2.1
    have ksca := fun W => as_con_sca W o.2.1
    have kpro := fun W => as_con_pro W o.2.1
    go_enter Try.func139, Try.ntmps139
    go_wp2_with fail
    go_at_call 137
    refine (O1.out _).mono ?_
    rintro e w1 ⟨rfl, hb1⟩
    have HB1 := Lib.hid (((Below.refl w.heap.size w).alloc (Nat.le_refl _) _).trans (hb1.mono (by simp)))
    have hs1 : w.heap.size ≤ w1.heap.size := HB1.out.size
    clear hb1
    go_wp2
    go_ret
    exact ⟨none, 0, rfl, OwI.nil _ _, HB1.out⟩
  · have E := Lib.hid (show ndL o = [o.2.1, o.2.2] by unfold ndL; rw [h1]; rfl)
    have O1 := Lib.hid (show ∀ W, Calls Try.prog 137 #[.agg #[.int .i64 o.1, .int .i64 o.2.1, .int .i64 o.2.2]] W fun e w' => e = .returned (.iface 157 (.agg #[.int .i64 o.2.1, .int .i64 o.2.2])) ∧ Below W.heap.size W w' from fun W => by have h := OPN.out W; rw [show opI (o.1, o.2.1, o.2.2) = opI o from rfl, h3] at h; exact h)
    rw [E.out]
    clear h1 h3 hk
    have ksum := fun W => as_sum_sum W o.2.1 o.2.2
    have ksca := fun W => as_sum_sca W o.2.1 o.2.2
    have kpro := fun W => as_sum_pro W o.2.1 o.2.2
    go_enter Try.func139, Try.ntmps139
    go_wp2_with fail
    go_at_call 137
    refine (O1.out _).mono ?_
    rintro e w1 ⟨rfl, hb1⟩
    have HB1 := Lib.hid (((Below.refl w.heap.size w).alloc (Nat.le_refl _) _).trans (hb1.mono (by simp)))
    have hs1 : w.heap.size ≤ w1.heap.size := HB1.out.size
    clear hb1
    go_wp2
    go_ret
    exact ⟨_, _, rfl, by simpa using (two_own (w := w1.alloc _) o.2.1 o.2.2).base (by simp; omega), (HB1.out.alloc hs1 _).alloc (by simp; omega) _⟩
  · have E := Lib.hid (show ndL o = [o.2.1] by unfold ndL; rw [h1]; rfl)
    have O1 := Lib.hid (show ∀ W, Calls Try.prog 137 #[.agg #[.int .i64 o.1, .int .i64 o.2.1, .int .i64 o.2.2]] W fun e w' => e = .returned (.iface 152 (.agg #[.int .i64 o.2.1, .int .i64 o.2.2])) ∧ Below W.heap.size W w' from fun W => by have h := OPN.out W; rw [show opI (o.1, o.2.1, o.2.2) = opI o from rfl, h3] at h; exact h)
    rw [E.out]
    clear h1 h3 hk
    have ksum := fun W => as_sca_sum W o.2.1 o.2.2
    have ksca := fun W => as_sca_sca W o.2.1 o.2.2
    have kpro := fun W => as_sca_pro W o.2.1 o.2.2
    go_enter Try.func139, Try.ntmps139
    go_wp2_with fail
    go_at_call 137
    refine (O1.out _).mono ?_
    rintro e w1 ⟨rfl, hb1⟩
    have HB1 := Lib.hid (((Below.refl w.heap.size w).alloc (Nat.le_refl _) _).trans (hb1.mono (by simp)))
    have hs1 : w.heap.size ≤ w1.heap.size := HB1.out.size
    clear hb1
    go_wp2
    go_ret
    exact ⟨_, _, rfl, by simpa using (one_own (w := w1.alloc _) o.2.1).base (by simp; omega), (HB1.out.alloc hs1 _).alloc (by simp; omega) _⟩
  · have E := Lib.hid (show ndL o = [o.2.1, o.2.2] by unfold ndL; rw [h1]; rfl)
    have O1 := Lib.hid (show ∀ W, Calls Try.prog 137 #[.agg #[.int .i64 o.1, .int .i64 o.2.1, .int .i64 o.2.2]] W fun e w' => e = .returned (.iface 159 (.agg #[.int .i64 o.2.1, .int .i64 o.2.2])) ∧ Below W.heap.size W w' from fun W => by have h := OPN.out W; rw [show opI (o.1, o.2.1, o.2.2) = opI o from rfl, h3] at h; exact h)
    rw [E.out]
    clear h1 h3 hk
    have ksum := fun W => as_pro_sum W o.2.1 o.2.2
    have ksca := fun W => as_pro_sca W o.2.1 o.2.2
    have kpro := fun W => as_pro_pro W o.2.1 o.2.2
    go_enter Try.func139, Try.ntmps139
    go_wp2_with fail
    go_at_call 137
    refine (O1.out _).mono ?_
    rintro e w1 ⟨rfl, hb1⟩
    have HB1 := Lib.hid (((Below.refl w.heap.size w).alloc (Nat.le_refl _) _).trans (hb1.mono (by simp)))
    have hs1 : w.heap.size ≤ w1.heap.size := HB1.out.size
    clear hb1
    go_wp2
    go_ret
    exact ⟨_, _, rfl, by simpa using (two_own (w := w1.alloc _) o.2.1 o.2.2).base (by simp; omega), (HB1.out.alloc hs1 _).alloc (by simp; omega) _⟩
  · exact absurd h3 hk

theorem fol_eq (o : Op3) (n : Nat) (m : Int) (h : opI o ≠ .nilIface) (hm : m = if o.1 = 0 then o.2.1 else if o.1 = 2 then o.2.2 else 0) : opOk o n = (isC m && !(ndL o).any fun v => outV n v) := by
  have hv : ∀ v, inV v n = !outV n v := by
    intro v
    unfold inV outV
    rw [Bool.eq_iff_iff]
    simp
  rcases op_five o with ⟨h1, h2, h3⟩ | ⟨h1, h3⟩ | ⟨h1, h3⟩ | ⟨h1, h3⟩ | ⟨h3, _⟩
  · rw [hm]; unfold opOk ndL; rw [if_pos h1, if_pos h1, if_neg (by omega), if_neg (by omega), decide_eq_true h2]; rfl
  · rw [hm]; unfold opOk ndL
    rw [if_neg (by omega), if_pos (.inl h1), if_neg (by omega), if_neg (by omega), if_pos (.inl h1), hv, hv]
    simp [isC]
  · rw [hm]; unfold opOk ndL
    rw [if_neg (by omega), if_neg (by omega), if_pos h1, if_neg (by omega), if_pos h1, if_neg (by omega), if_pos h1, hv, Bool.and_comm]
    simp
  · rw [hm]; unfold opOk ndL
    rw [if_neg (by omega), if_pos (.inr h1), if_neg (by omega), if_neg (by omega), if_pos (.inr h1), hv, hv]
    simp [isC]
  · exact absurd h3 h
theorem mf_boxes {w w1 : World} {a b c d : Value} (h : (w.alloc (.cells #[a, b, c] 80)).alloc (.cells #[d] 3) = w1) :
    w1.cell? ⟨w.heap.size, 0, none⟩ = some a ∧ w1.cell? ⟨w.heap.size, 1, none⟩ = some b ∧ w1.cell? ⟨w.heap.size, 2, none⟩ = some c ∧ w1.cell? ⟨w.heap.size + 1, 0, none⟩ = some d ∧ w1.heap.size = w.heap.size + 2 ∧ Below w.heap.size w w1 := by
  subst h
  refine ⟨?_, ?_, ?_, ?_, by simp, ((Below.refl _ _).alloc (Nat.le_refl _) _).alloc (by simp) _⟩
  · rw [World.cell?_alloc_lt _ _ _ (by simp), World.cell?_alloc_at _ _ _ _ rfl]; rfl
  · rw [World.cell?_alloc_lt _ _ _ (by simp), World.cell?_alloc_at _ _ _ _ rfl]; rfl
  · rw [World.cell?_alloc_lt _ _ _ (by simp), World.cell?_alloc_at _ _ _ _ rfl]; rfl
  · rw [World.cell?_alloc_at _ _ _ _ (by simp)]; rfl
set_option maxRecDepth 100000 in
set_option maxHeartbeats 4000000 in
theorem mayFollow_any (o : Op3) (n : Nat) (w : World) : Calls Try.prog 111 #[.agg #[.int .i64 o.1, .int .i64 o.2.1, .int .i64 o.2.2], .int .i64 (n : Int)] w fun e w' => e = .returned (.bool (opOk o n)) ∧ Below w.heap.size w w' := by
  have OPN := Lib.hid (fun W => operation_any o.1 o.2.1 o.2.2 W)
  have EQ := Lib.hid (fol_eq o n)
  have ND := Lib.hid (fun W h => needs_any o W h)
  have L2 := ndL_len o
  rcases op_five o with ⟨h1, h2, h3⟩ | ⟨h1, h3⟩ | ⟨h1, h3⟩ | ⟨h1, h3⟩ | ⟨h3, _⟩
  · have hk : opI o ≠ .nilIface := by rw [h3]; exact fun h => by cases h
    have E := Lib.hid (EQ.out (o.2.1) hk (by rw [h1]; rfl))
    have ND1 := Lib.hid (fun W => ND.out W hk)
    have O1 := Lib.hid (show ∀ W, Calls Try.prog 137 #[.agg #[.int .i64 o.1, .int .i64 o.2.1, .int .i64 o.2.2]] W fun e w' => e = .returned (.iface 150 (.agg #[.int .i64 o.2.1])) ∧ Below W.heap.size W w' from fun W => by have h := OPN.out W; rw [show opI (o.1, o.2.1, o.2.2) = opI o from rfl, h3] at h; exact h)
    rw [E.out]
    have IC := Lib.hid (fun W => isCoef_any (o.2.1) W)
    obtain ⟨t, ht⟩ : ∃ t, isC (o.2.1) = t := ⟨_, rfl⟩
    rw [ht] at IC
    rw [ht]
    clear h1 h3 h2 hk ht
    have kn := fun W => ne_con_nil W o.2.1
    have kcon := fun W => as_con_con W o.2.1
    have ksca := fun W => as_con_sca W o.2.1
    obtain ⟨L, hL⟩ : ∃ L, ndL o = L := ⟨_, rfl⟩
    rw [hL] at ND1 L2 ⊢
    clear hL
    go_enter Try.func111, Try.ntmps111
    go_wp2_with fail
    go_at_call 137
    generalize hw1 : World.alloc (World.alloc w _) _ = w1
    obtain ⟨x0, x1, x2, y0, xs, xb⟩ := mf_boxes hw1
    clear hw1
    refine (O1.out _).mono ?_
    rintro e w2 ⟨rfl, hb2⟩
    have z0 := (hb2.cell (p := ⟨w.heap.size, 0, none⟩) (by simp only []; omega)).trans x0
    have z1 := (hb2.cell (p := ⟨w.heap.size, 1, none⟩) (by simp only []; omega)).trans x1
    have z2 := (hb2.cell (p := ⟨w.heap.size, 2, none⟩) (by simp only []; omega)).trans x2
    have Z3 := Lib.hid ((hb2.cell (p := ⟨w.heap.size + 1, 0, none⟩) (by simp only []; omega)).trans y0)
    have HB2 := Lib.hid (xb.trans (hb2.mono (by omega)))
    have hs2 : w.heap.size + 2 ≤ w2.heap.size := by have := hb2.size; omega
    clear hb2 x0 x1 x2 y0 xb
    go_wp2_with fail
    go_at_call 71
    refine (IC.out _).mono ?_
    rintro e w3 ⟨rfl, rfl⟩
    cases t with
    | false =>
      go_wp2
      go_ret
      exact ⟨rfl, HB2.out.alloc (by omega) _⟩
    | true =>
      have v0 := cell_kept z0
      have v1 := cell_kept z1
      have v2 := cell_kept z2
      clear z0 z1 z2
      go_wp2_with fail
      go_at_call 139
      refine (ND1.out _).mono ?_
      rintro e w4 ⟨A, c, rfl, ho4, hb4⟩
      have HB4 := Lib.hid ((HB2.out.alloc (by omega) _).trans (hb4.mono (by first | omega | (simp; omega))))
      have hf := hasFol w4.heap.size A c L (w.heap.size + 1) n w4 (by omega) (Nat.le_refl _) ho4.rd ((hb4.cell (p := ⟨w.heap.size + 1, 0, none⟩) (by first | (simp only []; omega) | (simp; omega))).trans (cell_kept Z3.out _))
      have HF := Lib.hid hf
      clear hf ho4 hb4
      go_wp2_with fail
      go_at_call 138
      refine HF.out.mono ?_
      rintro e w5 ⟨rfl, rfl⟩
      go_wp2
      go_ret
      exact ⟨ret_bool (by simp), HB4.out⟩
  · have hk : opI o ≠ .nilIface := by rw [h3]; exact fun h => by cases h
    have E := Lib.hid (EQ.out (0) hk (by rw [h1]; rfl))
    have ND1 := Lib.hid (fun W => ND.out W hk)
    have O1 := Lib.hid (show ∀ W, Calls Try.prog 137 #[.agg #[.int .i64 o.1, .int .i64 o.2.1, .int .i64 o.2.2]] W fun e w' => e = .returned (.iface 157 (.agg #[.int .i64 o.2.1, .int .i64 o.2.2])) ∧ Below W.heap.size W w' from fun W => by have h := OPN.out W; rw [show opI (o.1, o.2.1, o.2.2) = opI o from rfl, h3] at h; exact h)
    rw [E.out]
    have IC := Lib.hid (fun W => isCoef_any (0) W)
    obtain ⟨t, ht⟩ : ∃ t, isC (0) = t := ⟨_, rfl⟩
    rw [ht] at IC
    rw [ht]
    clear h1 h3 hk ht
    have kn := fun W => ne_sum_nil W o.2.1 o.2.2
    have kcon := fun W => as_sum_con W o.2.1 o.2.2
    have ksca := fun W => as_sum_sca W o.2.1 o.2.2
    obtain ⟨L, hL⟩ : ∃ L, ndL o = L := ⟨_, rfl⟩
    rw [hL] at ND1 L2 ⊢
    clear hL
    go_enter Try.func111, Try.ntmps111
    go_wp2_with fail
    go_at_call 137
    generalize hw1 : World.alloc (World.alloc w _) _ = w1
    obtain ⟨x0, x1, x2, y0, xs, xb⟩ := mf_boxes hw1
    clear hw1
    refine (O1.out _).mono ?_
    rintro e w2 ⟨rfl, hb2⟩
    have z0 := (hb2.cell (p := ⟨w.heap.size, 0, none⟩) (by simp only []; omega)).trans x0
    have z1 := (hb2.cell (p := ⟨w.heap.size, 1, none⟩) (by simp only []; omega)).trans x1
    have z2 := (hb2.cell (p := ⟨w.heap.size, 2, none⟩) (by simp only []; omega)).trans x2
    have Z3 := Lib.hid ((hb2.cell (p := ⟨w.heap.size + 1, 0, none⟩) (by simp only []; omega)).trans y0)
    have HB2 := Lib.hid (xb.trans (hb2.mono (by omega)))
    have hs2 : w.heap.size + 2 ≤ w2.heap.size := by have := hb2.size; omega
    clear hb2 x0 x1 x2 y0 xb
    go_wp2_with fail
    go_at_call 71
    refine (IC.out _).mono ?_
    rintro e w3 ⟨rfl, rfl⟩
    cases t with
    | false =>
      go_wp2
      go_ret
      exact ⟨rfl, HB2.out⟩
    | true =>
      go_wp2_with fail
      go_at_call 139
      refine (ND1.out _).mono ?_
      rintro e w4 ⟨A, c, rfl, ho4, hb4⟩
      have HB4 := Lib.hid ((HB2.out).trans (hb4.mono (by first | omega | (simp; omega))))
      have hf := hasFol w4.heap.size A c L (w.heap.size + 1) n w4 (by omega) (Nat.le_refl _) ho4.rd ((hb4.cell (p := ⟨w.heap.size + 1, 0, none⟩) (by first | (simp only []; omega) | (simp; omega))).trans (Z3.out))
      have HF := Lib.hid hf
      clear hf ho4 hb4
      go_wp2_with fail
      go_at_call 138
      refine HF.out.mono ?_
      rintro e w5 ⟨rfl, rfl⟩
      go_wp2
      go_ret
      exact ⟨ret_bool (by simp), HB4.out⟩
  · have hk : opI o ≠ .nilIface := by rw [h3]; exact fun h => by cases h
    have E := Lib.hid (EQ.out (o.2.2) hk (by rw [h1]; rfl))
    have ND1 := Lib.hid (fun W => ND.out W hk)
    have O1 := Lib.hid (show ∀ W, Calls Try.prog 137 #[.agg #[.int .i64 o.1, .int .i64 o.2.1, .int .i64 o.2.2]] W fun e w' => e = .returned (.iface 152 (.agg #[.int .i64 o.2.1, .int .i64 o.2.2])) ∧ Below W.heap.size W w' from fun W => by have h := OPN.out W; rw [show opI (o.1, o.2.1, o.2.2) = opI o from rfl, h3] at h; exact h)
    rw [E.out]
    have IC := Lib.hid (fun W => isCoef_any (o.2.2) W)
    obtain ⟨t, ht⟩ : ∃ t, isC (o.2.2) = t := ⟨_, rfl⟩
    rw [ht] at IC
    rw [ht]
    clear h1 h3 hk ht
    have kn := fun W => ne_sca_nil W o.2.1 o.2.2
    have kcon := fun W => as_sca_con W o.2.1 o.2.2
    have ksca := fun W => as_sca_sca W o.2.1 o.2.2
    obtain ⟨L, hL⟩ : ∃ L, ndL o = L := ⟨_, rfl⟩
    rw [hL] at ND1 L2 ⊢
    clear hL
    go_enter Try.func111, Try.ntmps111
    go_wp2_with fail
    go_at_call 137
    generalize hw1 : World.alloc (World.alloc w _) _ = w1
    obtain ⟨x0, x1, x2, y0, xs, xb⟩ := mf_boxes hw1
    clear hw1
    refine (O1.out _).mono ?_
    rintro e w2 ⟨rfl, hb2⟩
    have z0 := (hb2.cell (p := ⟨w.heap.size, 0, none⟩) (by simp only []; omega)).trans x0
    have z1 := (hb2.cell (p := ⟨w.heap.size, 1, none⟩) (by simp only []; omega)).trans x1
    have z2 := (hb2.cell (p := ⟨w.heap.size, 2, none⟩) (by simp only []; omega)).trans x2
    have Z3 := Lib.hid ((hb2.cell (p := ⟨w.heap.size + 1, 0, none⟩) (by simp only []; omega)).trans y0)
    have HB2 := Lib.hid (xb.trans (hb2.mono (by omega)))
    have hs2 : w.heap.size + 2 ≤ w2.heap.size := by have := hb2.size; omega
    clear hb2 x0 x1 x2 y0 xb
    go_wp2_with fail
    go_at_call 71
    refine (IC.out _).mono ?_
    rintro e w3 ⟨rfl, rfl⟩
    cases t with
    | false =>
      go_wp2
      go_ret
      exact ⟨rfl, HB2.out.alloc (by omega) _⟩
    | true =>
      have v0 := cell_kept z0
      have v1 := cell_kept z1
      have v2 := cell_kept z2
      clear z0 z1 z2
      go_wp2_with fail
      go_at_call 139
      refine (ND1.out _).mono ?_
      rintro e w4 ⟨A, c, rfl, ho4, hb4⟩
      have HB4 := Lib.hid ((HB2.out.alloc (by omega) _).trans (hb4.mono (by first | omega | (simp; omega))))
      have hf := hasFol w4.heap.size A c L (w.heap.size + 1) n w4 (by omega) (Nat.le_refl _) ho4.rd ((hb4.cell (p := ⟨w.heap.size + 1, 0, none⟩) (by first | (simp only []; omega) | (simp; omega))).trans (cell_kept Z3.out _))
      have HF := Lib.hid hf
      clear hf ho4 hb4
      go_wp2_with fail
      go_at_call 138
      refine HF.out.mono ?_
      rintro e w5 ⟨rfl, rfl⟩
      go_wp2
      go_ret
      exact ⟨ret_bool (by simp), HB4.out⟩
  · have hk : opI o ≠ .nilIface := by rw [h3]; exact fun h => by cases h
    have E := Lib.hid (EQ.out (0) hk (by rw [h1]; rfl))
    have ND1 := Lib.hid (fun W => ND.out W hk)
    have O1 := Lib.hid (show ∀ W, Calls Try.prog 137 #[.agg #[.int .i64 o.1, .int .i64 o.2.1, .int .i64 o.2.2]] W fun e w' => e = .returned (.iface 159 (.agg #[.int .i64 o.2.1, .int .i64 o.2.2])) ∧ Below W.heap.size W w' from fun W => by have h := OPN.out W; rw [show opI (o.1, o.2.1, o.2.2) = opI o from rfl, h3] at h; exact h)
    rw [E.out]
    have IC := Lib.hid (fun W => isCoef_any (0) W)
    obtain ⟨t, ht⟩ : ∃ t, isC (0) = t := ⟨_, rfl⟩
    rw [ht] at IC
    rw [ht]
    clear h1 h3 hk ht
    have kn := fun W => ne_pro_nil W o.2.1 o.2.2
    have kcon := fun W => as_pro_con W o.2.1 o.2.2
    have ksca := fun W => as_pro_sca W o.2.1 o.2.2
    obtain ⟨L, hL⟩ : ∃ L, ndL o = L := ⟨_, rfl⟩
    rw [hL] at ND1 L2 ⊢
    clear hL
    go_enter Try.func111, Try.ntmps111
    go_wp2_with fail
    go_at_call 137
    generalize hw1 : World.alloc (World.alloc w _) _ = w1
    obtain ⟨x0, x1, x2, y0, xs, xb⟩ := mf_boxes hw1
    clear hw1
    refine (O1.out _).mono ?_
    rintro e w2 ⟨rfl, hb2⟩
    have z0 := (hb2.cell (p := ⟨w.heap.size, 0, none⟩) (by simp only []; omega)).trans x0
    have z1 := (hb2.cell (p := ⟨w.heap.size, 1, none⟩) (by simp only []; omega)).trans x1
    have z2 := (hb2.cell (p := ⟨w.heap.size, 2, none⟩) (by simp only []; omega)).trans x2
    have Z3 := Lib.hid ((hb2.cell (p := ⟨w.heap.size + 1, 0, none⟩) (by simp only []; omega)).trans y0)
    have HB2 := Lib.hid (xb.trans (hb2.mono (by omega)))
    have hs2 : w.heap.size + 2 ≤ w2.heap.size := by have := hb2.size; omega
    clear hb2 x0 x1 x2 y0 xb
    go_wp2_with fail
    go_at_call 71
    refine (IC.out _).mono ?_
    rintro e w3 ⟨rfl, rfl⟩
    cases t with
    | false =>
      go_wp2
      go_ret
      exact ⟨rfl, HB2.out⟩
    | true =>
      go_wp2_with fail
      go_at_call 139
      refine (ND1.out _).mono ?_
      rintro e w4 ⟨A, c, rfl, ho4, hb4⟩
      have HB4 := Lib.hid ((HB2.out).trans (hb4.mono (by first | omega | (simp; omega))))
      have hf := hasFol w4.heap.size A c L (w.heap.size + 1) n w4 (by omega) (Nat.le_refl _) ho4.rd ((hb4.cell (p := ⟨w.heap.size + 1, 0, none⟩) (by first | (simp only []; omega) | (simp; omega))).trans (Z3.out))
      have HF := Lib.hid hf
      clear hf ho4 hb4
      go_wp2_with fail
      go_at_call 138
      refine HF.out.mono ?_
      rintro e w5 ⟨rfl, rfl⟩
      go_wp2
      go_ret
      exact ⟨ret_bool (by simp), HB4.out⟩
  · rename_i hno
    have E := Lib.hid (hno n)
    have O1 := Lib.hid (show ∀ W, Calls Try.prog 137 #[.agg #[.int .i64 o.1, .int .i64 o.2.1, .int .i64 o.2.2]] W fun e w' => e = .returned .nilIface ∧ Below W.heap.size W w' from fun W => by have h := OPN.out W; rw [show opI (o.1, o.2.1, o.2.2) = opI o from rfl, h3] at h; exact h)
    rw [E.out]
    clear hno h3
    have kn := eq_nil_nil
    go_enter Try.func111, Try.ntmps111
    go_wp2_with fail
    go_at_call 137
    refine (O1.out _).mono ?_
    rintro e w1 ⟨rfl, hb1⟩
    have HB1 := Lib.hid ((((Below.refl w.heap.size w).alloc (Nat.le_refl _) _).alloc (by simp) _).trans (hb1.mono (by simp; omega)))
    clear hb1
    go_wp2
    go_ret
    exact ⟨rfl, HB1.out⟩
end Go.Proofs.Ytpopomcaknbhnaa
