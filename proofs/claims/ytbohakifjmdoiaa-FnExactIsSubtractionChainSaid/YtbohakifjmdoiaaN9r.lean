/- IsSubtractionChain: of both programs. -/
import Derived.Test.YtbohakifjmdoiaaN9q
import Derived.Test.YtbohakifjmdoiaaQj
namespace Go.Proofs.Ytbohakifjmdoiaa
open Go.RowKit

set_option maxRecDepth 100000 in
set_option maxHeartbeats 4000000 in
theorem canBeMade_any (B : Nat) (A : Option Addr) (c : Nat) (s : List Int) (n : Int) (w : World) (hm : s.length ≤ 4000000) (hn : 1 ≤ n ∧ n ≤ 1000000) (hall : ∀ v ∈ s, 1 ≤ v ∧ v ≤ 1000000) (hB : B ≤ w.heap.size) (hr : Rd w B 1 A s.length (s.map I)) :
    Calls Try.prog 74 #[.agg #[.int .i64 n, .slice A s.length c]] w fun e w' => e = .returned (.bool (madeP s n)) ∧ Below w.heap.size w w' := by
  have H := Lib.hid hr
  have C1 := Lib.hid (fun W (hb : Below w.heap.size w W) => has_isSumWith B A c s n W hm hn hall (Nat.le_trans hB hb.size) (hr.below' hb hB))
  have C2 := Lib.hid (fun W (hb : Below w.heap.size w W) => has_isDifferenceFrom B A c s n W hm hn hall (Nat.le_trans hB hb.size) (hr.below' hb hB))
  obtain ⟨g1, h1⟩ : ∃ g, s.any (fun a => hasI s (n - a)) = g := ⟨_, rfl⟩
  obtain ⟨g2, h2⟩ : ∃ g, s.any (fun a => hasI s (a - n)) = g := ⟨_, rfl⟩
  have E := Lib.hid (show madeP s n = (g1 || g2) by unfold madeP; rw [h1, h2])
  rw [h1] at C1
  rw [h2] at C2
  clear hr h1 h2 hn hall
  cases g1 with
  | true =>
    go_enter Try.func74, Try.ntmps74
    go_wp2_with fail
    go_at_call 84
    generalize hw1 : World.alloc w _ = w1
    obtain ⟨x0, x1, xs, xb⟩ := box2m hw1
    clear hw1
    refine (C1.out w1 xb).mono ?_
    rintro e w2 ⟨rfl, hb2⟩
    have XB := Lib.hid (xb.trans (hb2.mono (by omega)))
    clear x0 x1 xs xb hb2
    go_wp2
    go_ret
    exact ⟨ret_bool (by rw [E.out]; rfl), XB.out⟩
  | false =>
    go_enter Try.func74, Try.ntmps74
    go_wp2_with fail
    go_at_call 84
    generalize hw1 : World.alloc w _ = w1
    obtain ⟨x0, x1, xs, xb⟩ := box2m hw1
    clear hw1
    refine (C1.out w1 xb).mono ?_
    rintro e w2 ⟨rfl, hb2⟩
    have x0 := (hb2.cell (p := ⟨w.heap.size, 0, none⟩) (by simp only []; omega)).trans x0
    have x1 := (hb2.cell (p := ⟨w.heap.size, 1, none⟩) (by simp only []; omega)).trans x1
    have XB := Lib.hid (xb.trans (hb2.mono (by omega)))
    have hs2 := hb2.size
    clear xb hb2
    go_wp2_with fail
    go_at_call 84
    refine (C2.out w2 XB.out).mono ?_
    rintro e w3 ⟨rfl, hb3⟩
    have XB3 := Lib.hid (XB.out.trans (hb3.mono (by omega)))
    clear x0 x1 xs hb3
    go_wp2
    go_ret
    exact ⟨ret_bool (by rw [E.out]; rfl), XB3.out⟩

set_option maxRecDepth 100000 in
set_option maxHeartbeats 2000000 in
theorem siMade_any (B : Nat) (A : Option Addr) (c : Nat) (s : List Int) (n : Int) (w : World) (hm : s.length ≤ 1000000) (hn : 1 ≤ n ∧ n ≤ 1000000) (hall : ∀ v ∈ s, 1 ≤ v ∧ v ≤ 1000000) (hr : Rd w B 1 A s.length (s.map I)) :
    Calls Try.prog 72 #[.slice A s.length c, .int .i64 n] w fun e w' => e = .returned (.bool (madeM s n)) ∧ w = w' := by
  have H := Lib.hid hr
  have HA := Lib.hid hall
  obtain ⟨hn1, hn2⟩ := hn
  have LH := Lib.hid (fun x => l1Has_any B A c s x w (by omega) hr)
  clear hr hall
  go_enter Try.func72, Try.ntmps72
  go_wp2
  go_loopw [9] (fun iv wr => ∃ k : Nat, k ≤ s.length ∧ iv = .int .i64 (k : Int) ∧ (s.take k).any (fun a => hasI s (n - a) || hasI s (n + a)) = false ∧ w = wr) (fun i _ => s.length - (intOf i).toNat)
  case atStart => exact ⟨0, by omega, rfl, rfl, rfl⟩
  case round =>
    obtain ⟨k, hk, rfl, hno, rfl⟩ := hrel
    by_cases hlt : k < s.length
    · obtain ⟨b, off, eA, hb, hc⟩ := H.out.int hlt
      have ik : (k : Int) < (s.length : Int) := by omega
      have NX := Lib.hid (any_take9 hlt hno)
      have HIT := Lib.hid (any_hit9 (P := fun a => hasI s (n - a) || hasI s (n + a)) hlt)
      have hx0 := HA.out _ (List.getElem_mem hlt)
      obtain ⟨x, hx⟩ : ∃ x, s[k] = x := ⟨_, rfl⟩
      rw [hx] at hc NX HIT hx0
      obtain ⟨hx1, hx2⟩ := hx0
      have F1 := LH.out (n - x)
      have F2 := LH.out (n + x)
      obtain ⟨g1, h1⟩ : ∃ g, hasI s (n - x) = g := ⟨_, rfl⟩
      obtain ⟨g2, h2⟩ : ∃ g, hasI s (n + x) = g := ⟨_, rfl⟩
      rw [h1] at F1
      rw [h2] at F2
      simp only [h1, h2] at NX HIT
      have F1 := Lib.hid F1
      have F2 := Lib.hid F2
      clear hx hno h1 h2
      subst eA
      cases g1 with
      | true =>
        have HT := Lib.hid (HIT.out rfl)
        go_wp2_with fail
        go_at_call 71
        refine F1.out.mono ?_
        rintro e w' ⟨rfl, rfl⟩
        go_wp2
        go_ret
        exact ⟨ret_bool (by unfold madeM; rw [HT.out]), rfl⟩
      | false =>
      cases g2 with
      | true =>
        have HT := Lib.hid (HIT.out rfl)
        go_wp2_with fail
        go_at_call 71
        refine F1.out.mono ?_
        rintro e w' ⟨rfl, rfl⟩
        go_wp2_with fail
        go_at_call 71
        refine F2.out.mono ?_
        rintro e w' ⟨rfl, rfl⟩
        go_wp2
        go_ret
        exact ⟨ret_bool (by unfold madeM; rw [HT.out]), rfl⟩
      | false =>
        have NX := Lib.hid (NX.out.trans (show (false || false) = false from rfl))
        go_wp2_with fail
        go_at_call 71
        refine F1.out.mono ?_
        rintro e w' ⟨rfl, rfl⟩
        go_wp2_with fail
        go_at_call 71
        refine F2.out.mono ?_
        rintro e w' ⟨rfl, rfl⟩
        go_wp2
        go_roundw
        case rel => exact ⟨k + 1, by omega, by go_num, NX.out, trivial⟩
        case measure => simp [intOf]; omega
    · rw [List.take_of_length_le (by omega)] at hno
      have NO := Lib.hid hno
      clear hno
      go_wp2
      go_ret
      exact ⟨ret_bool (by unfold madeM; rw [NO.out]), rfl⟩

set_option maxRecDepth 100000 in
set_option maxHeartbeats 4000000 in
theorem implIsSubtractionChain_any (B : Nat) (A : Option Addr) (c : Nat) (l : List Int) (w : World) (hB : B ≤ w.heap.size) (hl : l.length ≤ 1048576) (hcap : l.length ≤ c) (hr : Rd w B 1 A l.length (l.map I)) :
    Calls Try.prog 34 #[.slice A l.length c] w fun e w' => e = .returned (.bool (isS l)) ∧ Below w.heap.size w w' := by
  have H := Lib.hid hr
  by_cases h1 : l.length < 1
  · have E := Lib.hid (isS_len (l := l) (by unfold inB; rw [decide_eq_false (by omega)]; rfl))
    have i1 : (l.length : Int) < 1 := by omega
    clear hr
    go_enter Try.func34, Try.ntmps34
    go_wp2
    go_ret
    exact ⟨ret_bool (by rw [E.out]), Below.refl _ _⟩
  have i1 : ¬ (l.length : Int) < 1 := by omega
  by_cases h2 : 41 < l.length
  · have E := Lib.hid (isS_len (l := l) (by unfold inB; rw [decide_eq_false (show ¬ (l.length : Int) ≤ 41 by omega)]; simp))
    have i2 : 41 < (l.length : Int) := by omega
    clear hr
    go_enter Try.func34, Try.ntmps34
    go_wp2
    go_ret
    exact ⟨ret_bool (by rw [E.out]), Below.refl _ _⟩
  have i2 : ¬ 41 < (l.length : Int) := by omega
  have hin : inB (l.length : Int) 1 41 = true := by unfold inB; rw [decide_eq_true (by omega), decide_eq_true (by omega)]; rfl
  have hp : 0 < l.length := by omega
  obtain ⟨b, off, eA, hb, hc0⟩ := hr.int hp
  have SH := Lib.hid (isS_head hp)
  have SE := Lib.hid (isS_end hin hp)
  have HO := Lib.hid (head_of hp)
  obtain ⟨a0, ha0⟩ : ∃ a, l[0] = a := ⟨_, rfl⟩
  rw [ha0] at hc0 SH SE HO
  rw [Nat.add_zero] at hc0
  clear hr ha0 hin
  by_cases h0 : a0 = 1
  · have HO := Lib.hid (HO.out h0)
    have SE := Lib.hid (SE.out h0)
    have q0 : (a0 != 1) = false := by simp [h0]
    obtain ⟨M, hM⟩ : ∃ M, l.length = M + 1 := ⟨l.length - 1, by omega⟩
    have HM := Lib.hid hM
    have E := Lib.hid (fun h : isK l M = true => SE.out (by rw [HM.out]; exact h))
    have hM40 : M ≤ 40 := by omega
    have hcM : M + 1 ≤ c := by omega
    have ic : (M : Int) + 1 ≤ (c : Int) := by omega
    have ic1 : (1 : Int) ≤ (c : Int) := by omega
    have iM1 : (1 : Int) ≤ (M : Int) + 1 := by omega
    rw [hM] at i1 i2 ⊢
    subst eA
    clear h0 h1 h2 hp hM hl hcap SE
    by_cases hc1 : c = 1
    · have hM0 : M = 0 := by omega
      subst hc1
      subst hM0
      have E := Lib.hid (E.out rfl)
      go_enter Try.func34, Try.ntmps34
      go_wp2
      go_loopw [23] (fun iv wr => iv = .int .i64 0 ∧ wr = w) (fun _ _ => 0)
      case atStart => exact ⟨rfl, rfl⟩
      case round =>
        obtain ⟨rfl, rfl⟩ := hrel
        go_wp2
        go_ret
        exact ⟨ret_bool (by rw [E.out]), Below.refl _ _⟩
    go_enter Try.func34, Try.ntmps34
    go_wp2
    go_loopw [23] (fun iv wr => ∃ k : Nat, k ≤ M ∧ iv = .int .i64 (k : Int) ∧ isK l k = true ∧ Below w.heap.size w wr) (fun iv _ => M - (intOf iv).toNat)
    case atStart => exact ⟨0, by omega, rfl, rfl, Below.refl _ _⟩
    case round =>
      obtain ⟨k, hk, rfl, hq, hbel⟩ := hrel
      have hs := hbel.size
      have BEL := Lib.hid hbel
      have Q := Lib.hid hq
      clear hbel hq
      by_cases hlt : k < M
      · have hk1 : k + 1 < l.length := by have := HM.out; omega
        obtain ⟨b2, off2, e2, hb2, hc2⟩ := (H.out.below' BEL.out hB).int hk1
        cases e2
        have KS := Lib.hid (isK_succ hk1)
        have KM := Lib.hid (isK_miss hk1)
        have HAL := Lib.hid (isK_all Q.out (by omega) HO.out)
        have HTL := Lib.hid (show (l.take (k + 1)).length = k + 1 by rw [List.length_take]; omega)
        have HRT := Lib.hid (show Rd wr B 1 (some ⟨b, off, none⟩) (l.take (k + 1)).length ((l.take (k + 1)).map I) by rw [HTL.out]; exact (H.out.below' BEL.out hB).take9 (by omega))
        obtain ⟨n, hn⟩ : ∃ n, l[k + 1] = n := ⟨_, rfl⟩
        rw [hn] at hc2 KS KM
        obtain ⟨s, hsd⟩ : ∃ s, l.take (k + 1) = s := ⟨_, rfl⟩
        rw [hsd] at KS KM HAL HTL HRT
        have hc2 : wr.cell? ⟨b, off + 1 + k, none⟩ = some (.int .i64 n) := by rw [show off + 1 + k = off + (k + 1) by omega]; exact hc2
        have ik : (k : Int) < (M : Int) := by omega
        have ikc : (k : Int) + 1 ≤ (c : Int) := by omega
        have EX := Lib.hid (fun W => isExponent_any n W)
        obtain ⟨g1, hg1⟩ : ∃ g, inB n 1 1000000 = g := ⟨_, rfl⟩
        have EX := Lib.hid (fun W => (show Calls Try.prog 67 #[.int .i64 n] W fun e w' => e = .returned (.bool g1) ∧ W = w' by rw [← hg1]; exact isExponent_any n W))
        have CT := contains9_any B (some ⟨b, off, none⟩) c s n wr (by rw [HTL.out]; omega) HRT.out
        rw [HTL.out] at CT
        obtain ⟨g2, hg2⟩ : ∃ g, hasI s n = g := ⟨_, rfl⟩
        rw [hg2] at CT
        have CT := Lib.hid CT
        clear hn hsd
        cases g1 with
        | false =>
          have E2 := Lib.hid (KM.out (by rw [hg1]; rfl))
          clear hg1 hg2
          go_wp2_with (go_at_call 67; refine (EX.out _).mono ?_; rintro e w' ⟨rfl, rfl⟩)
          go_ret
          exact ⟨ret_bool (by rw [E2.out]), BEL.out⟩
        | true =>
        cases g2 with
        | true =>
          have E2 := Lib.hid (KM.out (by rw [hg1, hg2]; rfl))
          clear hg1 hg2
          go_wp2_with (first
            | (go_at_call 67; refine (EX.out _).mono ?_; rintro e w' ⟨rfl, rfl⟩)
            | (go_at_call 73; refine CT.out.mono ?_; rintro e w' ⟨rfl, rfl⟩))
          go_ret
          exact ⟨ret_bool (by rw [E2.out]), BEL.out⟩
        | false =>
          have hnr : 1 ≤ n ∧ n ≤ 1000000 := by simpa [inB] using hg1
          have MK := canBeMade_any B (some ⟨b, off, none⟩) c s n wr (by rw [HTL.out]; omega) hnr HAL.out (by omega) HRT.out
          rw [HTL.out] at MK
          rw [hg1, hg2] at KM KS
          rw [Q.out] at KS
          obtain ⟨g3, hg3⟩ : ∃ g, madeP s n = g := ⟨_, rfl⟩
          rw [hg3] at MK KM KS
          have MK := Lib.hid MK
          clear hg1 hg2 hg3 hnr
          cases g3 with
          | false =>
            have E2 := Lib.hid (KM.out rfl)
            go_wp2_with (first
              | (go_at_call 67; refine (EX.out _).mono ?_; rintro e w' ⟨rfl, rfl⟩)
              | (go_at_call 73; refine CT.out.mono ?_; rintro e w' ⟨rfl, rfl⟩)
              | (go_at_call 74; refine MK.out.mono ?_; rintro e w5 ⟨rfl, hb5⟩))
            go_ret
            exact ⟨ret_bool (by rw [E2.out]), BEL.out.trans (hb5.mono hs)⟩
          | true =>
            have KS := Lib.hid (show isK l (k + 1) = true from KS.out)
            go_wp2_with (first
              | (go_at_call 67; refine (EX.out _).mono ?_; rintro e w' ⟨rfl, rfl⟩)
              | (go_at_call 73; refine CT.out.mono ?_; rintro e w' ⟨rfl, rfl⟩)
              | (go_at_call 74; refine MK.out.mono ?_; rintro e w5 ⟨rfl, hb5⟩))
            go_roundw
            case rel => exact ⟨k + 1, by omega, by go_num, KS.out, BEL.out.trans (hb5.mono hs)⟩
            case measure => simp [intOf]; omega
      · have hk' : k = M := by omega
        subst hk'
        have ik : ¬ (k : Int) < (k : Int) := by omega
        go_wp2
        go_ret
        exact ⟨ret_bool (by rw [E.out Q.out]), BEL.out⟩
  · have E := Lib.hid (SH.out h0)
    have q0 : (a0 != 1) = true := by simpa using h0
    subst eA
    have ip : (0 : Int) < (l.length : Int) := by omega
    clear h0
    go_enter Try.func34, Try.ntmps34
    go_wp2
    go_ret
    exact ⟨ret_bool (by rw [E.out]), Below.refl _ _⟩
end Go.Proofs.Ytbohakifjmdoiaa
