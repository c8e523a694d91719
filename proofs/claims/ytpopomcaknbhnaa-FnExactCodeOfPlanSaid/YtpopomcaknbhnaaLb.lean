/- The laws' own helpers: comparison of plans. -/
import Derived.Test.YtpopomcaknbhnaaLa
namespace Go.Proofs.Ytpopomcaknbhnaa
open Go.RowKit

set_option maxHeartbeats 400000 in
theorem eqStep_any (a b c d : Int) (w : World) :
    Calls Try.prog 136 #[.agg #[.int .i64 a, .int .i64 b], .agg #[.int .i64 c, .int .i64 d]] w fun e w' => e = .returned (.bool (decide ((a, b) = (c, d)))) ∧ Below w.heap.size w w' := by
  have hb : ∀ o o', Below w.heap.size w ((w.alloc o).alloc o') := fun o o' => ((Below.refl _ _).alloc (Nat.le_refl _) _).alloc (by simp) _
  have HB := Lib.hid hb
  clear hb
  by_cases h1 : a = c
  · by_cases h2 : b = d
    · subst h1
      subst h2
      go_enter Try.func136, Try.ntmps136
      go_wp2
      go_ret
      exact ⟨ret_bool (by simp), HB.out _ _⟩
    · have e : decide ((a, b) = (c, d)) = false := by simp [h2]
      have E := Lib.hid e
      have hne : (b != d) = true := by simpa using h2
      subst h1
      clear e h2
      go_enter Try.func136, Try.ntmps136
      go_wp2
      go_ret
      exact ⟨ret_bool E.out.symm, HB.out _ _⟩
  · have e : decide ((a, b) = (c, d)) = false := by simp [h1]
    have E := Lib.hid e
    have hne : (a != c) = true := by simpa using h1
    clear e h1
    go_enter Try.func136, Try.ntmps136
    go_wp2
    go_ret
    exact ⟨ret_bool E.out.symm, HB.out _ _⟩

set_option maxHeartbeats 400000 in
theorem eqIntS_any (B B' : Nat) (A A' : Option Addr) (c c' : Nat) (a b : List Int) (w : World) (hm : a.length ≤ 4000000) (_hm' : b.length ≤ 4000000) (hr : Rd w B 1 A a.length (a.map I)) (hr' : Rd w B' 1 A' b.length (b.map I)) :
    Calls Try.prog 28 #[.slice A a.length c, .slice A' b.length c'] w fun e w' => e = .returned (.bool (eqI a b)) ∧ Dr w w' := by
  have H := Lib.hid hr
  have H' := Lib.hid hr'
  clear hr hr'
  by_cases hl : a.length = b.length
  · have hlb : ((a.length : Int) == (b.length : Int)) = true := by simp [hl]
    have L := Lib.hid hl
    clear hl
    go_enter Try.func28, Try.ntmps28
    go_wp2
    go_loopw [5] (fun i wr => ∃ k n : Nat, k ≤ a.length ∧ i = .int .i64 k ∧ a.take k = b.take k ∧ wr = w.drewN n) (fun i _ => a.length - (intOf i).toNat)
    case atStart => exact ⟨0, 0, by omega, rfl, rfl, rfl⟩
    case round =>
      obtain ⟨k, n, hk, rfl, hq, rfl⟩ := hrel
      have Q := Lib.hid hq
      clear hq
      by_cases hlt : k < a.length
      · have hlt' : k < b.length := by have := L.out; omega
        obtain ⟨b1, off, rfl, hb, hcell⟩ := H.out.int hlt
        obtain ⟨b2, off2, rfl, hb2, hcell2⟩ := H'.out.int hlt'
        have i1 : (k : Int) < (a.length : Int) := by omega
        have i2 : (k : Int) < (b.length : Int) := by omega
        have i0 : (0 : Int) ≤ (k : Int) := by omega
        go_wp2
        go_quiet (fail)
        go_wp2
        · go_ret
          exact ⟨ret_bool (eqI_miss hlt hlt' (by assumption)).symm, Dr.mk2 _ _ _⟩
        · have he : (a[k] != b[k]) = false := by assumption
          go_roundw
          case rel => exact ⟨k + 1, _, by omega, by go_num, same_take hlt hlt' Q.out (by simpa using he), rfl⟩
          case measure => simp [intOf]; omega
      · go_wp2
        go_ret
        exact ⟨ret_bool (eqI_end L.out hlt Q.out).symm, Dr.mk _ _⟩
  · have hlb : ((a.length : Int) != (b.length : Int)) = true := by rw [bne_iff_ne]; omega
    have L := Lib.hid hl
    clear hl
    go_enter Try.func28, Try.ntmps28
    go_wp2
    go_ret
    exact ⟨ret_bool (eqI_len L.out).symm, Dr.refl _⟩

set_option maxRecDepth 100000 in
set_option maxHeartbeats 1000000 in
theorem eqStepS_any (B B' : Nat) (A A' : Option Addr) (c c' : Nat) (a b : List (Int × Int)) (w : World) (hm : a.length ≤ 4000000) (_hm' : b.length ≤ 4000000) (hB : B ≤ w.heap.size) (hB' : B' ≤ w.heap.size) (hr : Rd w B 2 A a.length (fl a)) (hr' : Rd w B' 2 A' b.length (fl b)) :
    Calls Try.prog 104 #[.slice A a.length c, .slice A' b.length c'] w fun e w' => e = .returned (.bool (decide (a = b))) ∧ Below w.heap.size w w' := by
  have H := Lib.hid hr
  have H' := Lib.hid hr'
  clear hr hr'
  by_cases hl : a.length = b.length
  · have hlb : ((a.length : Int) != (b.length : Int)) = false := by simp [hl]
    have L := Lib.hid hl
    clear hl
    go_enter Try.func104, Try.ntmps104
    go_wp2
    go_loopw [5] (fun i wr => ∃ k : Nat, k ≤ a.length ∧ i = .int .i64 k ∧ a.take k = b.take k ∧ Below w.heap.size w wr) (fun i _ => a.length - (intOf i).toNat)
    case atStart => exact ⟨0, by omega, rfl, rfl, Below.refl _ _⟩
    case round =>
      obtain ⟨k, hk, rfl, hq, hbel⟩ := hrel
      have Q := Lib.hid hq
      clear hq
      by_cases hlt : k < a.length
      · have hlt' : k < b.length := by have := L.out; omega
        obtain ⟨b1, off, rfl, hb, hc1, hc2⟩ := (H.out.below' hbel hB).stp hlt
        obtain ⟨b2, off2, rfl, hb2, hd1, hd2⟩ := (H'.out.below' hbel hB').stp hlt'
        have i1 : (k : Int) < (a.length : Int) := by omega
        have i2 : (k : Int) < (b.length : Int) := by omega
        have i0 : (0 : Int) ≤ (k : Int) := by omega
        have BEL := Lib.hid hbel
        clear hbel
        obtain ⟨q, hq⟩ : ∃ q, decide (((a[k]).1, (a[k]).2) = ((b[k]).1, (b[k]).2)) = q := ⟨_, rfl⟩
        cases q with
        | true =>
          have QQ := Lib.hid hq
          clear hq
          go_wp2
          refine wp_region_Tw [0, 1, 2, 3, 4, 5, 6, 7, 9] [3, 7] (.lp 0 (.lp 1 (.lp 2 (.lp 4 (.lp 5 (.lp 6 (.ls 3 (.ls 7 (.hv 8 (.lp 9 (.done))))))))))) (by kernel_rfl) (by kernel_rfl) ?_
          (repeat (first | (refine T_lp rfl (fun K hK => ?_); go_simp; refine hK _ ?_; clear hK K) | (refine T_ls rfl rfl (fun K hK => ?_); go_simp; refine hK _ ?_; clear hK K)))
          (refine T_hv rfl (by kernel_rfl) (fun K hK => ?_); go_simp)
          go_at_call 136
          have hE := eqStep_any (a[k]).1 (a[k]).2 (b[k]).1 (b[k]).2 wr.drew
          rw [QQ.out] at hE
          refine hE.mono ?_
          rintro e w5 ⟨rfl, hb5⟩
          clear hE
          (go_simp; refine hK _ _ ?_; clear hK K)
          (repeat (first | (refine T_lp rfl (fun K hK => ?_); go_simp; refine hK _ ?_; clear hK K) | (refine T_ls rfl rfl (fun K hK => ?_); go_simp; refine hK _ ?_; clear hK K)))
          refine T_done ?_
          go_wp2
          go_roundw
          case rel =>
            refine ⟨k + 1, by omega, by go_num, ?_, BEL.out.drew.trans (hb5.mono (by have := BEL.out.size; simpa using this))⟩
            rw [List.take_succ_eq_append_getElem hlt, List.take_succ_eq_append_getElem hlt', Q.out]
            have := QQ.out
            simp only [decide_eq_true_eq] at this
            rw [show a[k] = b[k] from this]
          case measure => simp [intOf]; omega
        | false =>
          have QQ := Lib.hid hq
          clear hq
          go_wp2
          refine wp_region_Tw [0, 1, 2, 3, 4, 5, 6, 7, 9] [3, 7] (.lp 0 (.lp 1 (.lp 2 (.lp 4 (.lp 5 (.lp 6 (.ls 3 (.ls 7 (.hv 8 (.lp 9 (.done))))))))))) (by kernel_rfl) (by kernel_rfl) ?_
          (repeat (first | (refine T_lp rfl (fun K hK => ?_); go_simp; refine hK _ ?_; clear hK K) | (refine T_ls rfl rfl (fun K hK => ?_); go_simp; refine hK _ ?_; clear hK K)))
          (refine T_hv rfl (by kernel_rfl) (fun K hK => ?_); go_simp)
          go_at_call 136
          have hE := eqStep_any (a[k]).1 (a[k]).2 (b[k]).1 (b[k]).2 wr.drew
          rw [QQ.out] at hE
          refine hE.mono ?_
          rintro e w5 ⟨rfl, hb5⟩
          clear hE
          (go_simp; refine hK _ _ ?_; clear hK K)
          (repeat (first | (refine T_lp rfl (fun K hK => ?_); go_simp; refine hK _ ?_; clear hK K) | (refine T_ls rfl rfl (fun K hK => ?_); go_simp; refine hK _ ?_; clear hK K)))
          refine T_done ?_
          go_wp2
          go_ret
          refine ⟨ret_bool ?_, BEL.out.drew.trans (hb5.mono (by have := BEL.out.size; simpa using this))⟩
          symm
          rw [decide_eq_false_iff_not]
          intro e
          subst e
          have := QQ.out
          simp at this
      · go_wp2
        go_ret
        refine ⟨ret_bool ?_, hbel⟩
        have h := Q.out
        have h2 := L.out
        rw [List.take_of_length_le (by omega), List.take_of_length_le (by omega)] at h
        simp [h]
  · have hlb : ((a.length : Int) != (b.length : Int)) = true := by rw [bne_iff_ne]; omega
    have L := Lib.hid hl
    clear hl
    go_enter Try.func104, Try.ntmps104
    go_wp2
    go_ret
    refine ⟨ret_bool ?_, Below.refl _ _⟩
    symm
    rw [decide_eq_false_iff_not]
    intro e
    exact L.out (by rw [e])

def eqP (p q : Pl) : Bool := decide (p.n = q.n) && (decide (p.s = q.s) && decide (p.o = q.o))

set_option maxRecDepth 100000 in
set_option maxHeartbeats 1000000 in
theorem eqPlan_any (B B' : Nat) (A1 A2 A3 A4 : Option Addr) (c1 c2 c3 c4 : Nat) (p q : Pl) (w : World) (h1 : p.s.length ≤ 4000000) (h2 : p.o.length ≤ 4000000) (h3 : q.s.length ≤ 4000000) (h4 : q.o.length ≤ 4000000)
    (hB : B ≤ w.heap.size) (hB' : B' ≤ w.heap.size) (hr : RdP w B A1 A2 p) (hr' : RdP w B' A3 A4 q) :
    Calls Try.prog 58 #[.agg #[.int .i64 p.n, .slice A1 p.s.length c1, .slice A2 p.o.length c2], .agg #[.int .i64 q.n, .slice A3 q.s.length c3, .slice A4 q.o.length c4]] w fun e w' =>
      e = .returned (.bool (eqP p q)) ∧ Below w.heap.size w w' := by
  have H := Lib.hid hr
  have H' := Lib.hid hr'
  clear hr hr'
  by_cases hn : p.n = q.n
  case neg =>
    have e : eqP p q = false := by simp [eqP, hn]
    have E := Lib.hid e
    have hne : (p.n != q.n) = true := by simpa using hn
    clear e hn
    go_enter Try.func58, Try.ntmps58
    go_wp2
    go_ret
    exact ⟨ret_bool E.out.symm, ((Below.refl _ _).alloc (Nat.le_refl _) _).alloc (by simp) _⟩
  case pos =>
  have hne : (p.n != q.n) = false := by simpa using hn
  obtain ⟨x, hx⟩ : ∃ x, decide (p.s = q.s) = x := ⟨_, rfl⟩
  obtain ⟨y, hy⟩ : ∃ y, eqI p.o q.o = y := ⟨_, rfl⟩
  have e : eqP p q = (x && y) := by
    have hy' : decide (p.o = q.o) = y := hy
    simp [eqP, hn, hx, hy']
  have E := Lib.hid e
  have HX := Lib.hid hx
  have HY := Lib.hid hy
  clear e hx hy hn
  go_enter Try.func58, Try.ntmps58
  go_wp2_with fail
  go_at_call 104
  generalize hw3 : World.alloc (World.alloc w _) _ = w3
  have f0 : w3.cell? ⟨w.heap.size, 2, none⟩ = some (.slice A2 p.o.length c2) := by
    rw [← hw3, World.cell?_alloc_lt _ _ _ (by simp), World.cell?_alloc_at _ _ _ _ rfl]; rfl
  have f1 : w3.cell? ⟨w.heap.size + 1, 2, none⟩ = some (.slice A4 q.o.length c4) := by
    rw [← hw3, World.cell?_alloc_at _ _ _ _ (by simp)]; rfl
  have hb3 : Below w.heap.size w w3 := by rw [← hw3]; exact ((Below.refl _ _).alloc (Nat.le_refl _) _).alloc (by simp) _
  have hs3 : w3.heap.size = w.heap.size + 2 := by rw [← hw3]; simp
  clear hw3
  have hE := eqStepS_any B B' A1 A3 c1 c3 p.s q.s w3 h1 h3 (by omega) (by omega) (H.out.below' hb3 hB).1 (H'.out.below' hb3 hB').1
  rw [HX.out] at hE
  refine hE.mono ?_
  rintro e w4 ⟨rfl, hb4⟩
  clear hE
  have g0 := (hb4.cell (p := ⟨w.heap.size, 2, none⟩) (by simp only []; omega)).trans f0
  have g1 := (hb4.cell (p := ⟨w.heap.size + 1, 2, none⟩) (by simp only []; omega)).trans f1
  have hb := hb3.trans (hb4.mono (show w.heap.size ≤ w3.heap.size by omega))
  have HB := Lib.hid hb
  clear f0 f1 hb3 hs3 hb4 hb
  cases x with
  | false =>
    go_wp2
    go_ret
    exact ⟨ret_bool E.out.symm, HB.out⟩
  | true =>
    go_wp2_with fail
    go_at_call 28
    have hE := eqIntS_any B B' A2 A4 c2 c4 p.o q.o w4 h2 h4 (H.out.below' HB.out hB).2 (H'.out.below' HB.out hB').2
    rw [HY.out] at hE
    refine hE.mono ?_
    rintro e w5 ⟨rfl, hd⟩
    clear hE
    have HB5 := Lib.hid (HB.out.trans (hd.below _))
    clear hd
    cases y with
    | false =>
      go_wp2
      go_ret
      exact ⟨ret_bool E.out.symm, HB5.out⟩
    | true =>
      go_wp2
      go_ret
      exact ⟨ret_bool E.out.symm, HB5.out⟩
end Go.Proofs.Ytpopomcaknbhnaa
