/- CanTurn, of the model and of the program. -/
import Derived.Test.YtlkieebmfmiafaaJf
namespace Go.Proofs.Ytlkieebmfmiafaa
open Go.RowKit

set_option maxRecDepth 100000 in
set_option maxHeartbeats 1000000 in
theorem isNone_any (O S : Option Addr) (n m co cs : Nat) (w : World) (hn : n ≤ 1000) (hm : m ≤ 1000) :
    Calls Try.prog 112 #[.agg #[.slice O n co, .slice S m cs]] w fun e w' => e = .returned (.bool (decide (m + n = 0))) ∧ Below w.heap.size w w' := by
  have HC := Lib.hid (fun W => count_any O S n m co cs W hn hm)
  have e0 : ((n : Int) + (m : Int) == 0) = decide (m + n = 0) := by
    by_cases h : m + n = 0
    · rw [decide_eq_true h]; simp; omega
    · rw [decide_eq_false h]; simp; omega
  have E := Lib.hid e0
  clear e0
  go_enter Try.func112, Try.ntmps112
  go_wp2_with fail
  go_at_call 64
  generalize hw1 : World.alloc w _ = w1
  obtain ⟨_, _, xs, xb⟩ := box2 hw1
  clear hw1
  refine (HC.out w1).mono ?_
  rintro e w2 ⟨rfl, hb2⟩
  have HB2 := Lib.hid (xb.trans (hb2.mono (show w.heap.size ≤ w1.heap.size by omega)))
  clear xs xb hb2
  go_wp2
  go_ret
  exact ⟨by rw [← E.out]; rfl, HB2.out⟩

/-- The first value that is not used, or -1. -/
def noU (s : List (Int × Int)) (o : List Int) (R : Nat) : Nat → Bool
  | 0 => false
  | k + 1 => noU s o R k || decide (usC s o s.length o.length (k : Int) = 0)
theorem noU_mono {s : List (Int × Int)} {o : List Int} {R j : Nat} (h : noU s o R j = true) : ∀ k, j ≤ k → noU s o R k = true := by
  intro k
  induction k with
  | zero => intro hk; rw [show j = 0 by omega] at h; exact h
  | succ k ih =>
    intro hk
    rcases Nat.lt_or_ge j (k + 1) with h1 | h1
    · simp only [noU, ih (by omega), Bool.true_or]
    · rw [show j = k + 1 by omega] at h; exact h

set_option maxRecDepth 100000 in
set_option maxHeartbeats 2000000 in
theorem indexNone_any (B R : Nat) (A : Option Addr) (c : Nat) (fo fs : Nat → Option Addr × Nat) (s : List (Int × Int)) (o : List Int) (w : World) (hs : s.length ≤ 40) (ho : o.length ≤ 6) (hR : R ≤ 46) (h : OwU w B A c fo fs s o R) :
    Calls Try.prog 130 #[.slice A R c, .func (.func 112) #[] #[]] w fun e w' => (∃ i : Int, e = .returned (.int .i64 i) ∧ decide (0 ≤ i) = noU s o R R) ∧ Below w.heap.size w w' := by
  have HU := Lib.hid h
  clear h
  go_enter Try.func130, Try.ntmps130
  go_wp2
  go_loopw [8] (fun iv wr => ∃ k : Nat, k ≤ R ∧ iv = .int .i64 k ∧ noU s o R k = false ∧ Below w.heap.size w wr) (fun i _ => R - (intOf i).toNat)
  case atStart => exact ⟨0, by omega, rfl, rfl, Below.refl _ _⟩
  case round =>
    obtain ⟨k, hk, rfl, hno, hbel⟩ := hrel
    by_cases hlt : k < R
    · have iqk : (k : Int) < (R : Int) := by omega
      obtain ⟨g, rfl, _, hg4, d0, d1⟩ := (HU.out.below hbel).at_ hlt
      have l1 := usS_le s (k : Int) s.length
      have l2 := usO_le o (k : Int) o.length
      have hc : usC s o s.length o.length (k : Int) = (usS s (k : Int) s.length).length + (usO o (k : Int) o.length).length := rfl
      have hno2 : noU s o R (k + 1) = decide (usC s o s.length o.length (k : Int) = 0) := by simp [noU, hno]
      rw [hc] at hno2
      obtain ⟨n, hn⟩ : ∃ n, (usO o (k : Int) o.length).length = n := ⟨_, rfl⟩
      obtain ⟨m, hm⟩ : ∃ m, (usS s (k : Int) s.length).length = m := ⟨_, rfl⟩
      obtain ⟨a1, ha1⟩ : ∃ a, fo k = a := ⟨_, rfl⟩
      obtain ⟨a2, ha2⟩ : ∃ a, fs k = a := ⟨_, rfl⟩
      rw [hn, ha1] at d0
      rw [hm, ha2] at d1
      rw [hn, hm] at hno2
      rw [hm] at l1
      rw [hn] at l2
      have HCN := fun W => isNone_any a1.1 a2.1 n m a1.2 a2.2 W (by omega) (by omega)
      obtain ⟨t, ht⟩ : ∃ t, decide (m + n = 0) = t := ⟨_, rfl⟩
      rw [ht] at HCN hno2
      have HCN := Lib.hid HCN
      have NO2 := Lib.hid hno2
      have BEL := Lib.hid hbel
      have hsz := hbel.size
      clear hc hn hm hbel ha1 ha2 hno hno2 ht
      go_wp2_with fail
      refine (HCN.out wr).mono ?_
      rintro e w5 ⟨rfl, hb5⟩
      have BEL5 := Lib.hid (BEL.out.trans (hb5.mono hsz))
      clear hb5
      cases t with
      | true =>
        go_wp2
        go_ret
        refine ⟨⟨_, rfl, ?_⟩, BEL5.out⟩
        rw [noU_mono NO2.out R (by omega)]
        exact decide_eq_true (by omega)
      | false =>
        go_wp2
        go_roundw
        case rel => exact ⟨k + 1, by omega, by go_num, NO2.out, BEL5.out⟩
        case measure => simp [intOf]; omega
    · have hk' : k = R := by omega
      subst hk'
      go_wp2
      go_ret
      exact ⟨⟨_, rfl, by rw [hno]; rfl⟩, hbel⟩

set_option maxRecDepth 100000 in
set_option maxHeartbeats 1000000 in
theorem containsNone_any (B R : Nat) (A : Option Addr) (c : Nat) (fo fs : Nat → Option Addr × Nat) (s : List (Int × Int)) (o : List Int) (w : World) (hs : s.length ≤ 40) (ho : o.length ≤ 6) (hR : R ≤ 46) (h : OwU w B A c fo fs s o R) :
    Calls Try.prog 111 #[.slice A R c, .func (.func 112) #[] #[]] w fun e w' => e = .returned (.bool (noU s o R R)) ∧ Below w.heap.size w w' := by
  have HI := Lib.hid (indexNone_any B R A c fo fs s o w hs ho hR h)
  clear h
  go_enter Try.func111, Try.ntmps111
  go_wp2_with fail
  go_at_call 130
  refine HI.out.mono ?_
  rintro e w2 ⟨⟨i, rfl, hi⟩, hb2⟩
  have HII := Lib.hid hi
  have HB2 := Lib.hid hb2
  clear hi hb2
  go_wp2
  go_ret
  exact ⟨by rw [← HII.out]; rfl, HB2.out⟩

set_option maxRecDepth 100000 in
set_option maxHeartbeats 1000000 in
theorem canTurn_any (B N R : Nat) (A1 A2 A : Option Addr) (c1 c2 c : Nat) (p : Pl) (w : World) (hs40 : p.s.length ≤ 40) (ho6 : p.o.length ≤ 6) (hR : R ≤ 46) (hB : B ≤ w.heap.size) (hr : RdP w B A1 A2 p) :
    Calls Try.prog 68 #[.agg #[.int .i64 N, .slice A1 p.s.length c1, .slice A2 p.o.length c2, .slice A R c]] w fun e w' =>
      e = .returned (.bool (!noU p.s p.o R R)) ∧ Below w.heap.size w w' := by
  have US := Lib.hid (fun W hW hr => allUses_any B N R A1 A2 A c1 c2 c p W hs40 ho6 hR hW hr)
  have H := Lib.hid hr
  clear hr
  obtain ⟨z, hz⟩ : ∃ z, noU p.s p.o R R = z := ⟨_, rfl⟩
  have HZ := Lib.hid hz
  rw [hz]
  clear hz
  go_enter Try.func68, Try.ntmps68
  go_wp2_with fail
  go_at_call 63
  generalize hw1 : World.alloc w _ = w1
  obtain ⟨_, xs, xb⟩ := box4v hw1
  clear hw1
  refine (US.out w1 (by omega) (H.out.below' xb hB)).mono ?_
  rintro e w2 ⟨A3, c3, fo, fs, rfl, hU, hb2⟩
  have hC := containsNone_any _ R A3 c3 fo fs p.s p.o w2 hs40 ho6 hR hU
  rw [HZ.out] at hC
  have HC := Lib.hid hC
  have HB2 := Lib.hid (xb.trans (hb2.mono (show w.heap.size ≤ w1.heap.size by omega)))
  clear hU hb2 xs xb hC
  go_wp2_with fail
  go_at_call 111
  refine HC.out.mono ?_
  rintro e w3 ⟨rfl, hb3⟩
  have HB3 := Lib.hid (HB2.out.trans (hb3.mono HB2.out.size))
  clear hb3
  go_wp2
  go_ret
  exact ⟨rfl, HB3.out⟩

/-- Whether a plan can be turned round. -/
def canB (p : Pl) : Bool := decide (0 < p.o.length) && !hasI (usL p) 0
def canR (p : Pl) : Bool := good p && canB p
theorem noU_iff {s : List (Int × Int)} {o : List Int} {R : Nat} : ∀ k, noU s o R k = true ↔ ∃ v : Nat, v < k ∧ usC s o s.length o.length (v : Int) = 0 := by
  intro k
  induction k with
  | zero => simp [noU]
  | succ k ih =>
    simp only [noU, Bool.or_eq_true, decide_eq_true_eq]
    rw [ih]
    constructor
    · rintro (⟨v, h1, h2⟩ | h)
      · exact ⟨v, by omega, h2⟩
      · exact ⟨k, by omega, h⟩
    · rintro ⟨v, h1, h2⟩
      rcases Nat.lt_or_ge v k with h3 | h3
      · exact .inl ⟨v, h3, h2⟩
      · right
        rw [show k = v by omega]
        exact h2
theorem noU_has (s : List (Int × Int)) (o : List Int) (R : Nat) : hasI (cL s o R s.length o.length) 0 = noU s o R R := by
  rw [Bool.eq_iff_iff, noU_iff]
  unfold hasI cL
  rw [List.contains_iff_mem, List.mem_map]
  constructor
  · rintro ⟨v, h1, h2⟩
    exact ⟨v, List.mem_range.1 h1, by omega⟩
  · rintro ⟨v, h1, h2⟩
    exact ⟨v, List.mem_range.2 h1, by omega⟩
theorem can_eq {p : Pl} {N : Nat} (hN : p.n = N) (n1 : 1 ≤ N) (hok : OkS N p.s) : canB p = !noU p.s p.o (N + p.s.length) (N + p.s.length) := by
  have hn : p.n.toNat = N := by omega
  unfold canB usL
  rw [hn, noU_has]
  by_cases ho : 0 < p.o.length
  · rw [decide_eq_true ho, Bool.true_and]
  · have : noU p.s p.o (N + p.s.length) (N + p.s.length) = true := by
      rw [noU_iff]
      refine ⟨N + p.s.length - 1, by omega, ?_⟩
      have h1 : usS p.s ((N + p.s.length - 1 : Nat) : Int) p.s.length = [] := by
        apply List.eq_nil_iff_forall_not_mem.2
        intro x hx
        obtain ⟨i, hi, _, h3⟩ := mem_usS.1 hx
        obtain ⟨q1, q2, q3⟩ := hok i hi
        have e : p.s.getD i (0, 0) = p.s[i] := by simp [hi]
        rw [e] at h3
        rcases h3 with h3 | h3 <;> omega
      have h2 : p.o = [] := by
        apply List.eq_nil_of_length_eq_zero
        omega
      unfold usC
      rw [h1, h2]
      rfl
    rw [this, decide_eq_false ho]
    rfl
end Go.Proofs.Ytlkieebmfmiafaa
