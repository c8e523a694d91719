/- Which plans the model takes as valid. -/
import Derived.Test.YtpopomcaknbhnaaSb
namespace Go.Proofs.Ytpopomcaknbhnaa
open Go.RowKit

def stepOk (n : Int) (i : Nat) (st : Int × Int) : Bool := inB st.1 0 st.2 && decide (st.2 < n + i)
def okPre (n : Int) (s : List (Int × Int)) (k : Nat) : Bool := (List.range k).all fun i => stepOk n i (s.getD i (0, 0))
def expsB (rows : List (List Int)) : Bool := rows.all fun r => allB r 0 1000000
def good (p : Pl) : Bool :=
  inB p.n 1 6 && (decide (p.s.length ≤ 40) && (decide (p.o.length ≤ 6) && (okPre p.n p.s p.s.length && (expsB (exps p.n.toNat p.s) && allB p.o 0 (p.n + p.s.length - 1)))))

theorem okPre_succ (n : Int) (s : List (Int × Int)) (k : Nat) (hk : k < s.length) : okPre n s (k + 1) = (okPre n s k && stepOk n k s[k]) := by
  unfold okPre
  rw [List.range_succ, List.all_append]
  simp [hk]
theorem okPre_false {n : Int} {s : List (Int × Int)} {k : Nat} (hk : k < s.length) (h : stepOk n k s[k] = false) : okPre n s s.length = false := by
  unfold okPre
  rw [List.all_eq_false]
  exact ⟨k, by simpa using hk, by simp [hk, h]⟩
theorem okS_of_pre {n : Nat} {s : List (Int × Int)} (h : okPre n s s.length = true) : OkS n s := by
  intro i hi
  unfold okPre at h
  rw [List.all_eq_true] at h
  have := h i (by simpa using hi)
  simp [hi, stepOk, inB] at this
  omega
theorem expsB_succ (rows : List (List Int)) (k : Nat) (hk : k < rows.length) : expsB (rows.take (k + 1)) = (expsB (rows.take k) && allB rows[k] 0 1000000) := by
  unfold expsB
  rw [List.take_succ_eq_append_getElem hk, List.all_append]
  simp
theorem expsB_false {rows : List (List Int)} {k : Nat} (hk : k < rows.length) (h : allB rows[k] 0 1000000 = false) : expsB rows = false := by
  unfold expsB
  rw [List.all_eq_false]
  exact ⟨_, List.getElem_mem hk, by simp [h]⟩

set_option maxRecDepth 100000 in
set_option maxHeartbeats 2000000 in
theorem plGood_any (B : Nat) (A1 A2 : Option Addr) (c1 c2 : Nat) (p : Pl) (w : World) (hB : B ≤ w.heap.size) (hls : p.s.length ≤ 2000000) (hlo : p.o.length ≤ 2000000)
    (hr : RdP w B A1 A2 p) :
    Calls Try.prog 99 #[.agg #[.int .i64 p.n, .slice A1 p.s.length c1, .slice A2 p.o.length c2]] w fun e w' => e = .returned (.bool (good p)) ∧ Below w.heap.size w w' := by
  have H := Lib.hid hr
  clear hr
  obtain ⟨g1, hg1⟩ : ∃ b, inB p.n 1 6 = b := ⟨_, rfl⟩
  cases g1 with
  | false =>
    have e : good p = false := by simp [good, hg1]
    rw [e]
    clear e
    go_enter Try.func99, Try.ntmps99
    go_wp2_with (go_at_call 93; refine (l1In_any _ _ _ _).mono ?_; rintro e w' ⟨rfl, rfl⟩)
    go_ret
    exact ⟨rfl, (Below.refl _ _).alloc (Nat.le_refl _) _⟩
  | true =>
  by_cases g2 : p.s.length ≤ 40
  case neg =>
    have e : good p = false := by simp [good, g2]
    rw [e]
    clear e
    have i2 : (40 : Int) < (p.s.length : Int) := by omega
    go_enter Try.func99, Try.ntmps99
    go_wp2_with (go_at_call 93; refine (l1In_any _ _ _ _).mono ?_; rintro e w' ⟨rfl, rfl⟩)
    go_ret
    exact ⟨rfl, (Below.refl _ _).alloc (Nat.le_refl _) _⟩
  case pos =>
  by_cases g3 : p.o.length ≤ 6
  case neg =>
    have e : good p = false := by simp [good, g3]
    rw [e]
    clear e
    have i2 : (p.s.length : Int) ≤ 40 := by omega
    have i3 : (6 : Int) < (p.o.length : Int) := by omega
    go_enter Try.func99, Try.ntmps99
    go_wp2_with (go_at_call 93; refine (l1In_any _ _ _ _).mono ?_; rintro e w' ⟨rfl, rfl⟩)
    go_ret
    exact ⟨rfl, (Below.refl _ _).alloc (Nat.le_refl _) _⟩
  case pos =>
  have i2 : (p.s.length : Int) ≤ 40 := by omega
  have i3 : (p.o.length : Int) ≤ 6 := by omega
  obtain ⟨n1, n2⟩ : 1 ≤ p.n ∧ p.n ≤ 6 := by simpa [inB] using hg1
  obtain ⟨N, hN⟩ : ∃ N : Nat, p.n = N := ⟨p.n.toNat, by omega⟩
  have eg : good p = (okPre p.n p.s p.s.length && (expsB (exps N p.s) && allB p.o 0 (p.n + p.s.length - 1))) := by
    have : p.n.toNat = N := by omega
    simp [good, hg1, g2, g3, this]
  rw [eg]
  have HN := Lib.hid hN
  clear eg hN
  go_enter Try.func99, Try.ntmps99
  go_wp2_with (go_at_call 93; refine (l1In_any _ _ _ _).mono ?_; rintro e w' ⟨rfl, rfl⟩)
  generalize hw1 : World.alloc w _ = w1
  obtain ⟨x0, x1, x2, xs, xb⟩ := box3 hw1
  clear hw1
  have X := Lib.hid xs
  have XB := Lib.hid xb
  have X0 := Lib.hid x0
  have X1 := Lib.hid x1
  have X2 := Lib.hid x2
  clear xs xb x0 x1 x2
  go_loopw [26] (fun i wr => ∃ (k : Nat), k ≤ p.s.length ∧ i = .int .i64 k ∧ okPre p.n p.s k = true ∧ Below (w.heap.size + 1) w1 wr) (fun i _ => p.s.length - (intOf i).toNat)
  case atStart => exact ⟨0, by omega, rfl, rfl, Below.refl _ _⟩
  case round =>
    obtain ⟨k, hk, rfl, hok, hbel⟩ := hrel
    have hsz : w.heap.size + 1 ≤ wr.heap.size := by have := X.out; have := hbel.size; omega
    have OK := Lib.hid hok
    clear hok
    have y0 := (hbel.cell (p := ⟨w.heap.size, 0, none⟩) (by simp)).trans X0.out
    have y1 := (hbel.cell (p := ⟨w.heap.size, 1, none⟩) (by simp)).trans X1.out
    have y2 := (hbel.cell (p := ⟨w.heap.size, 2, none⟩) (by simp)).trans X2.out
    have z0 := cell_kept y0
    by_cases hlt : k < p.s.length
    · obtain ⟨sb, off, rfl, hsb, hc1, hc2⟩ := ((H.out.1.below' XB.out hB).below' hbel (by omega)).stp hlt
      obtain ⟨gi, hgi⟩ : ∃ b, inB (p.s[k]).1 0 (p.s[k]).2 = b := ⟨_, rfl⟩
      cases gi with
      | false =>
        have e : (okPre p.n p.s p.s.length && (expsB (exps N p.s) && allB p.o 0 (p.n + p.s.length - 1))) = false := by rw [okPre_false hlt (by simp [stepOk, hgi])]; rfl
        have E := Lib.hid e
        clear e
        go_wp2_with (go_at_call 93; refine (l1In_any _ _ _ _).mono ?_; rintro e w' ⟨rfl, rfl⟩)
        go_ret
        exact ⟨ret_bool E.out.symm, XB.out.trans ((hbel.mono (by omega)).alloc (by omega) _)⟩
      | true =>
        by_cases hb : (p.s[k]).2 < p.n + k
        · have e : okPre p.n p.s (k + 1) = true := by rw [okPre_succ _ _ _ hlt, OK.out]; simp [stepOk, hgi, hb]
          have E := Lib.hid e
          clear e
          go_wp2_with (go_at_call 93; refine (l1In_any _ _ _ _).mono ?_; rintro e w' ⟨rfl, rfl⟩)
          go_roundw
          case rel => exact ⟨k + 1, by omega, by go_num, E.out, hbel.alloc hsz _⟩
          case measure => simp [intOf]; omega
        · have e : (okPre p.n p.s p.s.length && (expsB (exps N p.s) && allB p.o 0 (p.n + p.s.length - 1))) = false := by rw [okPre_false hlt (by simp [stepOk, hb])]; rfl
          have E := Lib.hid e
          have hb' : p.n + k ≤ (p.s[k]).2 := by omega
          clear e hb
          go_wp2_with (go_at_call 93; refine (l1In_any _ _ _ _).mono ?_; rintro e w' ⟨rfl, rfl⟩)
          go_ret
          exact ⟨ret_bool E.out.symm, XB.out.trans ((hbel.mono (by omega)).alloc (by omega) _)⟩
    · have hk' : k = p.s.length := by omega
      have hokN : OkS N p.s := by
        have h := OK.out
        rw [hk', HN.out] at h
        exact okS_of_pre h
      have eg : (okPre p.n p.s p.s.length && (expsB (exps N p.s) && allB p.o 0 (p.n + p.s.length - 1))) = (expsB (exps N p.s) && allB p.o 0 (p.n + p.s.length - 1)) := by
        have h := OK.out
        rw [hk'] at h
        rw [h]
        rfl
      have EG := Lib.hid eg
      have HOK := Lib.hid hokN
      have HBW := Lib.hid hbel
      have hpw := (H.out.below' XB.out hB).below' hbel (by omega)
      have HPW := Lib.hid hpw
      clear eg hokN hbel hpw hk'
      go_wp2_with fail
      go_at_call 131
      refine (plExponents_any B N _ _ _ _ p _ HN.out (by have := HN.out; omega) (by have := HN.out; omega) (by omega) (by omega) HOK.out HPW.out).mono ?_
      rintro e w2 ⟨A3, c3, rfl, hrows, hbel2⟩
      have hlt0 : w.heap.size < wr.heap.size := by omega
      have v0 := (hbel2.cell (p := ⟨w.heap.size, 0, none⟩) hlt0).trans y0
      have v1 := (hbel2.cell (p := ⟨w.heap.size, 1, none⟩) hlt0).trans y1
      have v2 := (hbel2.cell (p := ⟨w.heap.size, 2, none⟩) hlt0).trans y2
      have hro : Rd w2 B 1 A2 p.o.length (p.o.map I) := (HPW.out.below' hbel2 (by omega)).2
      have HRO := Lib.hid hro
      have hfin := ((HBW.out.mono (show w.heap.size ≤ w.heap.size + 1 by omega)).trans (hbel2.mono (show w.heap.size ≤ wr.heap.size by omega)))
      have HF := Lib.hid (XB.out.trans hfin)
      clear hfin hro y0 y1 y2 z0 hbel2 hsz hlt0 hlt
      obtain ⟨rows, hrw⟩ : ∃ rows, rows = exps N p.s := ⟨_, rfl⟩
      rw [← hrw] at hrows
      have hrl : rows.length ≤ 1000 := by rw [hrw, exps_length]; have := HN.out; omega
      have hr1 : (exps N p.s).length = rows.length := by rw [hrw]
      have hrk : OkR N rows := by rw [hrw]; have := exps_ok HOK.out p.s.length (Nat.le_refl _); rwa [List.take_of_length_le (Nat.le_refl _)] at this
      have HR := Lib.hid hrows
      have HK := Lib.hid hrk
      have HW := Lib.hid hrw
      rw [hr1]
      clear hrows hrw hrk hr1
      go_wp2
      go_loop [50] (fun i => ∃ j : Nat, j ≤ rows.length ∧ i = .int .i64 j ∧ expsB (rows.take j) = true) (fun i => rows.length - (intOf i).toNat)
      case atStart => exact ⟨0, by omega, rfl, rfl⟩
      case round =>
        obtain ⟨j, hj, rfl, hq⟩ := hrel
        have Q := Lib.hid hq
        clear hq
        by_cases hlt : j < rows.length
        · obtain ⟨g, B1, d1, rfl, hg, hcj, hoj⟩ := HR.out.at_ hlt
          have HO := Lib.hid hoj
          have hjl : (rows[j]).length ≤ 4000000 := by rw [(HK.out _ (List.getElem_mem hlt)).1]; have := HN.out; omega
          clear hoj
          obtain ⟨ga, hga⟩ : ∃ b, allB rows[j] 0 1000000 = b := ⟨_, rfl⟩
          cases ga with
          | true =>
            go_wp2_with (go_at_call 132; refine (l1All_any _ _ _ _ _ _ _ hjl HO.out.rd).mono ?_; rintro e w' ⟨rfl, rfl⟩)
            go_round
            case rel => exact ⟨j + 1, by omega, by go_num, by rw [expsB_succ _ _ hlt, Q.out, hga]; rfl⟩
            case measure => simp [intOf]; omega
          | false =>
            go_wp2_with (go_at_call 132; refine (l1All_any _ _ _ _ _ _ _ hjl HO.out.rd).mono ?_; rintro e w' ⟨rfl, rfl⟩)
            go_ret
            exact ⟨ret_bool (by rw [EG.out, ← HW.out, expsB_false hlt hga]; rfl), HF.out⟩
        · have e : expsB rows = true := by
            have := Q.out
            rwa [List.take_of_length_le (by omega)] at this
          have E := Lib.hid e
          clear e
          go_wp2_with fail
          go_at_call 132
          refine (l1All_any B _ _ _ _ _ _ (by omega) HRO.out).mono ?_
          rintro e w' ⟨rfl, rfl⟩
          go_wp2
          go_ret
          exact ⟨ret_bool (by rw [EG.out, ← HW.out, E.out]; rfl), HF.out⟩
end Go.Proofs.Ytpopomcaknbhnaa
