/- Binary digits, and the bounds that they give. -/
import Derived.Test.YtppahohakiidmaaQz
import Derived.Test.YtppahohakiidmaaQl
import Derived.Test.YtppahohakiidmaaAp
import Derived.Test.YtppahohakiidmaaYb
namespace Go.Proofs.Ytppahohakiidmaa
open Go.RowKit

def bitsF : Nat → Nat → List Int
  | 0, _ => []
  | f + 1, n => if n = 0 then [] else bitsF f (n / 2) ++ [((n % 2 : Nat) : Int)]
theorem bitsF_zero : ∀ f, bitsF f 0 = []
  | 0 => rfl
  | _ + 1 => rfl
theorem bitsF_succ {f n : Nat} (h : 0 < n) : bitsF (f + 1) n = bitsF f (n / 2) ++ [((n % 2 : Nat) : Int)] := if_neg (by omega)
theorem bitsF_len : ∀ f n, (bitsF f n).length ≤ f
  | 0, _ => Nat.le_refl _
  | f + 1, n => by
    unfold bitsF
    split
    · simp
    · rw [List.length_append, List.length_singleton]
      have := bitsF_len f (n / 2)
      omega
theorem bits_facts : ∀ n : Fin 101, (bitsF 7 n.val).length = Lib.bitLen n.val ∧ (bitsF 7 n.val).foldl (· + ·) 0 = ((dgF 20 n.val : Nat) : Int) ∧ (1 ≤ n.val → 1 ≤ dgF 20 n.val ∧ dgF 20 n.val ≤ 7 ∧ 1 ≤ Lib.bitLen n.val ∧ Lib.bitLen n.val ≤ 7) := by decide +kernel
theorem least_facts : ∀ o : Fin 8, Lib.bitLen (o.val - 1) ≤ 3 ∧ (o.val ≤ 2 ^ Lib.bitLen (o.val - 1)) ∧ ∀ b : Fin 4, b.val < Lib.bitLen (o.val - 1) → 2 ^ b.val < o.val := by decide +kernel
theorem bits_digits (n : Nat) (h : n ≤ 100) : ∀ x ∈ bitsF 7 n, 0 ≤ x ∧ x ≤ 1 := by
  have : ∀ n : Fin 101, ∀ x ∈ bitsF 7 n.val, 0 ≤ x ∧ x ≤ 1 := by decide +kernel
  exact this ⟨n, by omega⟩

set_option maxRecDepth 100000 in
set_option maxHeartbeats 2000000 in
theorem shBits_any (N : Nat) (w : World) (hN : N ≤ 100) :
    Calls Try.prog 68 #[.int .i64 (N : Int)] w fun e w' => ∃ A' c', e = .returned (.slice A' (bitsF 7 N).length c') ∧ OwI w' w.heap.size (.slice A' (bitsF 7 N).length c') (bitsF 7 N) ∧ Below w.heap.size w w' := by
  obtain ⟨T, hT⟩ : ∃ T, bitsF 7 N = T := ⟨_, rfl⟩
  rw [hT]
  have HT := Lib.hid hT
  clear hT
  go_enter Try.func68, Try.ntmps68
  go_wp2
  go_loopw [0, 3] (fun nv ov wr => ∃ (m f k : Nat) (l : List Int) (A1 : Option Addr) (c1 : Nat), nv = .int .i64 (m : Int) ∧ ov = .slice A1 k c1 ∧ k = l.length ∧ l.length + f = 7 ∧ m < 2 ^ f ∧ bitsF f m ++ l = T ∧ OwI wr w.heap.size (.slice A1 k c1) l ∧ Below w.heap.size w wr) (fun nv _ _ => (intOf nv).toNat)
  case atStart => exact ⟨N, 7, 0, [], none, 0, rfl, rfl, rfl, rfl, by omega, by rw [List.append_nil]; exact HT.out, OwI.nil _ _, Below.refl _ _⟩
  case round =>
    obtain ⟨m, f, k, l, A1, c1, rfl, rfl, hk, hf, hm, hs, hown, hbel⟩ := hrel
    have HS := Lib.hid hs
    have OWN := Lib.hid hown
    have BEL := Lib.hid hbel
    have HK := Lib.hid hk
    have hs1 : w.heap.size ≤ wr.heap.size := hbel.size
    have hm7 : m < 128 := Nat.lt_of_lt_of_le hm (Nat.pow_le_pow_right (n := 2) (by decide) (show f ≤ 7 by omega))
    clear hs hown hbel hk
    by_cases h0 : 0 < m
    · have i0 : (0 : Int) < (m : Int) := by omega
      obtain ⟨g, rfl⟩ : ∃ g, f = g + 1 := by
        cases f with
        | zero => simp at hm; omega
        | succ g => exact ⟨g, rfl⟩
      have hg : m / 2 < 2 ^ g := by rw [Nat.pow_succ] at hm; omega
      have HG := Lib.hid hg
      have SUM := Lib.hid (show bitsF g (m / 2) ++ (((m % 2 : Nat) : Int) :: l) = T by rw [← HS.out, bitsF_succ h0, List.append_assoc]; rfl)
      have hk7 : k ≤ 7 := by rw [HK.out]; omega
      clear hg hm
      go_wp2_with (at_builtin; refine list_step (fun K hK => ?_); refine step_appM Try.underlying22 info_int rfl (by omega) (by omega) rfl (.tmp 10) (.tmp 11) rfl w.heap.size 1 _ [I ((m % 2 : Nat) : Int)] rfl (show World.ownsRow _ _ _ _ _ _ _ from own_one ((m % 2 : Nat) : Int) (by omega)) A1 k c1 (l.map I) rfl (show Rd _ _ 1 A1 k _ from by have h := (OWN.out.alloc (.cells #[.int .i64 ((m % 2 : Nat) : Int)] 3)); exact Rd.of_own (by have h2 := h; unfold OwI at h2; rw [← HK.out] at h2; exact h2)) (ints_one _) (by omega) (by simp; omega) ?_; intro A2 c2 w2 hown2 hg2 hbel2; go_simp; refine hK _ _ ?_; clear hK K)
      go_roundw
      case rel =>
        refine ⟨m / 2, g, 1 + k, ((m % 2 : Nat) : Int) :: l, A2, c2, by go_num, rfl, by rw [HK.out, List.length_cons]; omega, by rw [List.length_cons]; omega, HG.out, SUM.out, ?_, (BEL.out.alloc hs1 _).trans hbel2⟩
        unfold OwI
        rw [List.length_cons, show l.length + 1 = 1 + k by rw [HK.out]; omega]
        exact hown2
      case measure => simp [intOf]; omega
    · have e0 : m = 0 := by omega
      subst e0
      have hT : l = T := by rw [← HS.out, bitsF_zero]; rfl
      subst hT
      have hk' := HK.out
      subst hk'
      go_wp2
      go_ret
      exact ⟨A1, c1, rfl, OWN.out, BEL.out⟩

set_option maxRecDepth 100000 in
set_option maxHeartbeats 2000000 in
theorem shOnes_any (N : Nat) (w : World) (hN : N ≤ 100) :
    Calls Try.prog 67 #[.int .i64 (N : Int)] w fun e w' => e = .returned (.int .i64 (dgF 20 N : Nat)) ∧ Below w.heap.size w w' := by
  have hB := shBits_any N w hN
  have hsum := (bits_facts ⟨N, by omega⟩).2.1
  have hdig := bits_digits N hN
  have hlen := bitsF_len 7 N
  simp only [] at hsum
  obtain ⟨l, hl⟩ : ∃ l, bitsF 7 N = l := ⟨_, rfl⟩
  rw [hl] at hB hsum hdig hlen
  have HB := Lib.hid hB
  have HS := Lib.hid hsum
  have HD := Lib.hid hdig
  clear hB hsum hdig hl
  go_enter Try.func67, Try.ntmps67
  go_wp2_with (go_at_call 68; refine HB.out.mono ?_; rintro e w2 ⟨A', c', rfl, hown, hb2⟩)
  have OWN := Lib.hid hown
  have HB2 := Lib.hid hb2
  have hs2 : w.heap.size ≤ w2.heap.size := hb2.size
  clear hown hb2
  go_loopw [3, 9] (fun sv iv wr => ∃ (k : Nat) (s : Int), k ≤ l.length ∧ iv = .int .i64 (k : Int) ∧ sv = .int .i64 s ∧ (l.take k).foldl (· + ·) 0 = s ∧ 0 ≤ s ∧ s ≤ (k : Int) ∧ wr = w2) (fun _ iv _ => l.length - (intOf iv).toNat)
  case atStart => exact ⟨0, 0, by omega, rfl, rfl, rfl, by omega, by omega, rfl⟩
  case round =>
    obtain ⟨k, s, hk, rfl, rfl, hs, h0, h1, hwr⟩ := hrel
    subst hwr
    have SS := Lib.hid hs
    clear hs
    by_cases hlt : k < l.length
    · obtain ⟨g, off, rfl, hg, hc⟩ := OWN.out.rd.int hlt
      have hd := HD.out _ (List.getElem_mem hlt)
      obtain ⟨x, hx⟩ : ∃ x, l[k] = x := ⟨_, rfl⟩
      rw [hx] at hd hc
      have NX := Lib.hid (show (l.take (k + 1)).foldl (· + ·) 0 = s + x by rw [List.take_succ_eq_append_getElem hlt, List.foldl_append, SS.out, hx]; rfl)
      clear hx
      have hw1 : IntKind.i64.wrap (s + x) = s + x := IntWalk.i64_in _ (by omega)
      go_wp2
      go_roundw
      case rel => exact ⟨k + 1, s + x, by omega, by go_num, rfl, NX.out, by omega, by omega, by first | rfl | trivial⟩
      case measure => simp [intOf]; omega
    · have e : k = l.length := by omega
      subst e
      have E := Lib.hid (show s = ((dgF 20 N : Nat) : Int) by rw [← HS.out, ← SS.out, List.take_of_length_le (Nat.le_refl _)])
      go_wp2
      go_ret
      exact ⟨by rw [E.out]; rfl, HB2.out⟩

def isSh (n : Int) : Bool := inB n 1 100
theorem isSh_rng {n : Int} (h : isSh n = true) : 1 ≤ n ∧ n ≤ 100 := by
  unfold isSh inB at h
  simpa using h
theorem shNumber_any (n : Int) (w : World) : Calls Try.prog 49 #[.int .i64 n] w fun e w' => e = .returned (.bool (isSh n)) ∧ w = w' := by
  go_enter Try.func49, Try.ntmps49
  go_wp2_with (go_at_call 61; refine (l1In_any _ _ _ _).mono ?_; rintro e w' ⟨rfl, rfl⟩)
  go_ret
  exact ⟨rfl, rfl⟩
theorem isShort_any (n : Int) (w : World) : Calls Try.prog 53 #[.int .i64 n] w fun e w' => e = .returned (.bool (isSh n)) ∧ w = w' := by
  by_cases h1 : 1 ≤ n <;> by_cases h2 : n ≤ 100
  all_goals
    go_enter Try.func53, Try.ntmps53
    go_wp2
    go_ret
    exact ⟨ret_bool (by simp [isSh, inB, h1, h2]), rfl⟩

/-- The bounds. -/
def loN (n : Int) : Int := if isSh n then (Lib.bitLen n.toNat : Nat) - 1 + (Lib.bitLen (dgF 20 n.toNat - 1) : Nat) else 0
def hiN (n : Int) : Int := if isSh n then (Lib.bitLen n.toNat : Nat) + (dgF 20 n.toNat : Nat) - 2 else 0
theorem loN_true {n : Int} (h : isSh n = true) : loN n = (Lib.bitLen n.toNat : Nat) - 1 + (Lib.bitLen (dgF 20 n.toNat - 1) : Nat) := by unfold loN; rw [if_pos h]
theorem loN_false {n : Int} (h : isSh n = false) : loN n = 0 := by unfold loN; rw [h]; rfl
theorem hiN_true {n : Int} (h : isSh n = true) : hiN n = (Lib.bitLen n.toNat : Nat) + (dgF 20 n.toNat : Nat) - 2 := by unfold hiN; rw [if_pos h]
theorem hiN_false {n : Int} (h : isSh n = false) : hiN n = 0 := by unfold hiN; rw [h]; rfl

set_option maxRecDepth 100000 in
set_option maxHeartbeats 2000000 in
theorem specLo_any (n : Int) (w : World) : Calls Try.prog 38 #[.int .i64 n] w fun e w' => e = .returned (.tuple #[.int .i64 (loN n), .bool (isSh n)]) ∧ Below w.heap.size w w' := by
  have hN := shNumber_any n w
  cases hq : isSh n with
  | false =>
    rw [hq] at hN
    have HN := Lib.hid hN
    have Q := Lib.hid (loN_false hq)
    clear hN hq
    go_enter Try.func38, Try.ntmps38
    go_wp2_with (go_at_call 49; refine HN.out.mono ?_; rintro e w' ⟨rfl, rfl⟩)
    go_ret2
    exact ⟨by rw [Q.out]; rfl, Below.refl _ _⟩
  | true =>
    rw [hq] at hN
    have HN := Lib.hid hN
    have hr := isSh_rng hq
    obtain ⟨N, rfl⟩ : ∃ N : Nat, n = N := ⟨n.toNat, by omega⟩
    obtain ⟨f1, _, f3⟩ := bits_facts ⟨N, by omega⟩
    simp only [] at f1 f3
    obtain ⟨o1, o7, b1, b7⟩ := f3 (by omega)
    have hO := fun W => shOnes_any N W (by omega)
    have hBt := fun W => shBits_any N W (by omega)
    obtain ⟨g1, g2, g3⟩ := least_facts ⟨dgF 20 N, by omega⟩
    have hQ := loN_true hq
    rw [Int.toNat_natCast] at hQ
    simp only [] at g1 g2 g3
    rw [f1] at hBt
    obtain ⟨L, hL⟩ : ∃ L, Lib.bitLen N = L := ⟨_, rfl⟩
    obtain ⟨O, hOO⟩ : ∃ O, dgF 20 N = O := ⟨_, rfl⟩
    rw [hL] at hQ b1 b7 hBt
    rw [hOO] at hQ g1 g2 g3 o1 o7 hO
    obtain ⟨V, hV⟩ : ∃ V, Lib.bitLen (O - 1) = V := ⟨_, rfl⟩
    rw [hV] at hQ g1 g2 g3
    have HO := Lib.hid hO
    have HBt := Lib.hid hBt
    have Q := Lib.hid hQ
    have G2 := Lib.hid g2
    have G3 := Lib.hid g3
    clear hN hq hO hBt hQ g2 g3 f1 f3 hL hOO hV
    go_enter Try.func38, Try.ntmps38
    go_wp2_with (go_at_call 49; refine HN.out.mono ?_; rintro e w' ⟨rfl, rfl⟩)
    go_loopw [4] (fun iv wr => ∃ b : Nat, b ≤ V ∧ iv = .int .i64 (b : Int) ∧ Below w.heap.size w wr) (fun iv _ => V - (intOf iv).toNat)
    case atStart => exact ⟨0, by omega, rfl, Below.refl _ _⟩
    case round =>
      obtain ⟨b, hb, rfl, hbel⟩ := hrel
      have BEL := Lib.hid hbel
      have hs1 : w.heap.size ≤ wr.heap.size := hbel.size
      clear hbel
      obtain ⟨P, hP⟩ : ∃ P : Nat, 2 ^ b = P := ⟨_, rfl⟩
      have hP8 : P ≤ 8 := by rw [← hP]; exact Nat.pow_le_pow_right (n := 2) (by decide) (show b ≤ 3 by omega)
      have hPI : (2 : Int) ^ b = (P : Int) := by rw [← hP]; push_cast; rfl
      have hPW : IntKind.i64.wrap (2 ^ b) = (P : Int) := by rw [hPI]; exact IntWalk.i64_in _ (by omega)
      have HPW := Lib.hid hPW
      by_cases hlt : b < V
      · have hp : (P : Int) < (O : Int) := by
          have := G3.out ⟨b, by omega⟩ hlt
          simp only [hP] at this
          omega
        clear hP hPI
        go_wp2
        refine wp_region_Tw [0, 1, 2, 4] [] (.lp 0 (.lp 1 (.lp 2 (.hv 3 (.lp 4 (.done)))))) (by kernel_rfl) (by kernel_rfl) ?_
        (repeat (first | (refine T_lp rfl (fun K hK => ?_); go_simp; refine hK _ ?_; clear hK K) | (refine T_ls rfl rfl (fun K hK => ?_); go_simp; refine hK _ ?_; clear hK K)))
        (refine T_hv rfl (by kernel_rfl) (fun K hK => ?_); go_simp)
        go_at_call 67
        refine (HO.out wr.drew).mono ?_
        rintro e w2 ⟨rfl, hb2⟩
        have HB2 := Lib.hid (BEL.out.drew.trans (hb2.mono (by simp; omega)))
        clear hb2
        (go_simp; refine hK _ _ ?_; clear hK K)
        (repeat (first | (refine T_lp rfl (fun K hK => ?_); go_simp; refine hK _ ?_; clear hK K) | (refine T_ls rfl rfl (fun K hK => ?_); go_simp; refine hK _ ?_; clear hK K)))
        refine T_done ?_
        go_wp2
        go_roundw
        case rel => exact ⟨b + 1, by omega, by go_num, HB2.out⟩
        case measure => simp [intOf]; omega
      · have e : b = V := by omega
        subst e
        have hp : ¬ (P : Int) < (O : Int) := by
          have := G2.out
          rw [hP] at this
          omega
        have hP2 : (O : Int) ≤ (P : Int) := by omega
        clear hP hPI
        go_wp2
        refine wp_region_Tw [0, 1, 2, 4] [] (.lp 0 (.lp 1 (.lp 2 (.hv 3 (.lp 4 (.done)))))) (by kernel_rfl) (by kernel_rfl) ?_
        (repeat (first | (refine T_lp rfl (fun K hK => ?_); go_simp; refine hK _ ?_; clear hK K) | (refine T_ls rfl rfl (fun K hK => ?_); go_simp; refine hK _ ?_; clear hK K)))
        (refine T_hv rfl (by kernel_rfl) (fun K hK => ?_); go_simp)
        go_at_call 67
        refine (HO.out wr.drew).mono ?_
        rintro e w2 ⟨rfl, hb2⟩
        have HB2 := Lib.hid (BEL.out.drew.trans (hb2.mono (by simp; omega)))
        have hs2 : w.heap.size ≤ w2.heap.size := by have := hb2.size; simp at this; omega
        clear hb2
        (go_simp; refine hK _ _ ?_; clear hK K)
        (repeat (first | (refine T_lp rfl (fun K hK => ?_); go_simp; refine hK _ ?_; clear hK K) | (refine T_ls rfl rfl (fun K hK => ?_); go_simp; refine hK _ ?_; clear hK K)))
        refine T_done ?_
        have w1 : IntKind.i64.wrap ((L : Int) - 1) = (L : Int) - 1 := IntWalk.i64_in _ (by omega)
        have w2' : IntKind.i64.wrap ((L : Int) - 1 + (b : Int)) = (L : Int) - 1 + (b : Int) := IntWalk.i64_in _ (by omega)
        go_wp2_with (go_at_call 68; refine (HBt.out w2).mono ?_; rintro e w3 ⟨A', c', rfl, _, hb3⟩)
        go_ret2
        exact ⟨by rw [Q.out]; rfl, HB2.out.trans (hb3.mono hs2)⟩

set_option maxRecDepth 100000 in
set_option maxHeartbeats 2000000 in
theorem specHi_any (n : Int) (w : World) : Calls Try.prog 40 #[.int .i64 n] w fun e w' => e = .returned (.tuple #[.int .i64 (hiN n), .bool (isSh n)]) ∧ Below w.heap.size w w' := by
  have hN := shNumber_any n w
  cases hq : isSh n with
  | false =>
    rw [hq] at hN
    have HN := Lib.hid hN
    have Q := Lib.hid (hiN_false hq)
    clear hN hq
    go_enter Try.func40, Try.ntmps40
    go_wp2_with (go_at_call 49; refine HN.out.mono ?_; rintro e w' ⟨rfl, rfl⟩)
    go_ret2
    exact ⟨by rw [Q.out]; rfl, Below.refl _ _⟩
  | true =>
    rw [hq] at hN
    have HN := Lib.hid hN
    have hr := isSh_rng hq
    obtain ⟨N, rfl⟩ : ∃ N : Nat, n = N := ⟨n.toNat, by omega⟩
    obtain ⟨f1, _, f3⟩ := bits_facts ⟨N, by omega⟩
    simp only [] at f1 f3
    obtain ⟨o1, o7, b1, b7⟩ := f3 (by omega)
    have hO := fun W => shOnes_any N W (by omega)
    have hBt := fun W => shBits_any N W (by omega)
    have hQ := hiN_true hq
    rw [Int.toNat_natCast] at hQ
    rw [f1] at hBt
    obtain ⟨L, hL⟩ : ∃ L, Lib.bitLen N = L := ⟨_, rfl⟩
    obtain ⟨O, hOO⟩ : ∃ O, dgF 20 N = O := ⟨_, rfl⟩
    rw [hL] at hQ b1 b7 hBt
    rw [hOO] at hQ o1 o7 hO
    have HO := Lib.hid hO
    have HBt := Lib.hid hBt
    have Q := Lib.hid hQ
    clear hN hq hO hBt hQ f1 f3 hL hOO
    have w1 : IntKind.i64.wrap ((L : Int) + (O : Int)) = (L : Int) + (O : Int) := IntWalk.i64_in _ (by omega)
    have w2' : IntKind.i64.wrap ((L : Int) + (O : Int) - 2) = (L : Int) + (O : Int) - 2 := IntWalk.i64_in _ (by omega)
    go_enter Try.func40, Try.ntmps40
    go_wp2_with (first
      | (go_at_call 49; refine HN.out.mono ?_; rintro e w' ⟨rfl, rfl⟩)
      | (go_at_call 68; refine (HBt.out w).mono ?_; rintro e w3 ⟨A', c', rfl, _, hb3⟩)
      | (go_at_call 67; refine (HO.out w3).mono ?_; rintro e w4 ⟨rfl, hb4⟩))
    go_ret2
    exact ⟨by rw [Q.out]; rfl, hb3.trans (hb4.mono hb3.size)⟩

set_option maxRecDepth 100000 in
set_option maxHeartbeats 2000000 in
theorem implLo_any (n : Int) (w : World) : Calls Try.prog 39 #[.int .i64 n] w fun e w' => e = .returned (.tuple #[.int .i64 (loN n), .bool (isSh n)]) ∧ Below w.heap.size w w' := by
  have hN := isShort_any n w
  cases hq : isSh n with
  | false =>
    rw [hq] at hN
    have HN := Lib.hid hN
    have Q := Lib.hid (loN_false hq)
    clear hN hq
    go_enter Try.func39, Try.ntmps39
    go_wp2_with (go_at_call 53; refine HN.out.mono ?_; rintro e w' ⟨rfl, rfl⟩)
    go_ret2
    exact ⟨by rw [Q.out]; rfl, Below.refl _ _⟩
  | true =>
    rw [hq] at hN
    have HN := Lib.hid hN
    have hr := isSh_rng hq
    obtain ⟨N, rfl⟩ : ∃ N : Nat, n = N := ⟨n.toNat, by omega⟩
    obtain ⟨_, _, f3⟩ := bits_facts ⟨N, by omega⟩
    simp only [] at f3
    obtain ⟨o1, o7, b1, b7⟩ := f3 (by omega)
    obtain ⟨g1, _, _⟩ := least_facts ⟨dgF 20 N, by omega⟩
    have hQ := loN_true hq
    rw [Int.toNat_natCast] at hQ
    simp only [] at g1
    have hO := onesCount_any N w (by omega)
    have hB1 := bitsLen_any (N : Int) w (by omega) (by omega)
    have hB2 := bitsLen_any ((dgF 20 N - 1 : Nat) : Int) w (by omega) (by omega)
    rw [Int.toNat_natCast] at hB1 hB2
    obtain ⟨L, hL⟩ : ∃ L, Lib.bitLen N = L := ⟨_, rfl⟩
    obtain ⟨O, hOO⟩ : ∃ O, dgF 20 N = O + 1 := ⟨dgF 20 N - 1, by omega⟩
    rw [hL] at hQ b1 b7 hB1
    rw [hOO] at hQ g1 o1 o7 hO hB2
    rw [Nat.add_sub_cancel] at hQ g1 hB2
    obtain ⟨V, hV⟩ : ∃ V, Lib.bitLen O = V := ⟨_, rfl⟩
    rw [hV] at hQ g1 hB2
    have HO := Lib.hid hO
    have HB1 := Lib.hid hB1
    have HB2 := Lib.hid hB2
    have Q := Lib.hid hQ
    clear hN hq hO hB1 hB2 hQ f3 hL hOO hV
    have w1 : IntKind.i64.wrap ((L : Int) - 1) = (L : Int) - 1 := IntWalk.i64_in _ (by omega)
    have w2' : IntKind.i64.wrap ((L : Int) - 1 + (V : Int)) = (L : Int) - 1 + (V : Int) := IntWalk.i64_in _ (by omega)
    have w3' : IntKind.i64.wrap (O : Int) = (O : Int) := IntWalk.i64_in _ (by omega)
    have u1 : IntKind.u64.wrap (N : Int) = (N : Int) := by rw [IntKind.wrap_u64]; omega
    have u2 : IntKind.u64.wrap (O : Int) = (O : Int) := by rw [IntKind.wrap_u64]; omega
    go_enter Try.func39, Try.ntmps39
    go_wp2_with (first
      | (go_at_call 53; refine HN.out.mono ?_; rintro e w' ⟨rfl, rfl⟩)
      | (go_at_call 69; refine HO.out.mono ?_; rintro e w' ⟨rfl, rfl⟩)
      | (go_at_call 70; refine HB1.out.mono ?_; rintro e w' ⟨rfl, rfl⟩)
      | (go_at_call 70; refine HB2.out.mono ?_; rintro e w' ⟨rfl, rfl⟩))
    go_ret2
    exact ⟨by rw [Q.out]; rfl, Below.refl _ _⟩

set_option maxRecDepth 100000 in
set_option maxHeartbeats 2000000 in
theorem implHi_any (n : Int) (w : World) : Calls Try.prog 41 #[.int .i64 n] w fun e w' => e = .returned (.tuple #[.int .i64 (hiN n), .bool (isSh n)]) ∧ Below w.heap.size w w' := by
  have hN := isShort_any n w
  cases hq : isSh n with
  | false =>
    rw [hq] at hN
    have HN := Lib.hid hN
    have Q := Lib.hid (hiN_false hq)
    clear hN hq
    go_enter Try.func41, Try.ntmps41
    go_wp2_with (go_at_call 53; refine HN.out.mono ?_; rintro e w' ⟨rfl, rfl⟩)
    go_ret2
    exact ⟨by rw [Q.out]; rfl, Below.refl _ _⟩
  | true =>
    rw [hq] at hN
    have HN := Lib.hid hN
    have hr := isSh_rng hq
    obtain ⟨N, rfl⟩ : ∃ N : Nat, n = N := ⟨n.toNat, by omega⟩
    obtain ⟨_, _, f3⟩ := bits_facts ⟨N, by omega⟩
    simp only [] at f3
    obtain ⟨o1, o7, b1, b7⟩ := f3 (by omega)
    have hQ := hiN_true hq
    rw [Int.toNat_natCast] at hQ
    have hO := onesCount_any N w (by omega)
    have hB1 := bitsLen_any (N : Int) w (by omega) (by omega)
    rw [Int.toNat_natCast] at hB1
    obtain ⟨L, hL⟩ : ∃ L, Lib.bitLen N = L := ⟨_, rfl⟩
    obtain ⟨O, hOO⟩ : ∃ O, dgF 20 N = O := ⟨_, rfl⟩
    rw [hL] at hQ b1 b7 hB1
    rw [hOO] at hQ o1 o7 hO
    have HO := Lib.hid hO
    have HB1 := Lib.hid hB1
    have Q := Lib.hid hQ
    clear hN hq hO hB1 hQ f3 hL hOO
    have w1 : IntKind.i64.wrap ((L : Int) + (O : Int)) = (L : Int) + (O : Int) := IntWalk.i64_in _ (by omega)
    have w2' : IntKind.i64.wrap ((L : Int) + (O : Int) - 2) = (L : Int) + (O : Int) - 2 := IntWalk.i64_in _ (by omega)
    have u1 : IntKind.u64.wrap (N : Int) = (N : Int) := by rw [IntKind.wrap_u64]; omega
    go_enter Try.func41, Try.ntmps41
    go_wp2_with (first
      | (go_at_call 53; refine HN.out.mono ?_; rintro e w' ⟨rfl, rfl⟩)
      | (go_at_call 69; refine HO.out.mono ?_; rintro e w' ⟨rfl, rfl⟩)
      | (go_at_call 70; refine HB1.out.mono ?_; rintro e w' ⟨rfl, rfl⟩))
    go_ret2
    exact ⟨by rw [Q.out]; rfl, Below.refl _ _⟩
end Go.Proofs.Ytppahohakiidmaa
