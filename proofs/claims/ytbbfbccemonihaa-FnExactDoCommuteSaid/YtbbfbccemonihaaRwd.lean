/- DoCommute, of the model. -/
import Derived.Test.YtbbfbccemonihaaRwc
namespace Go.Proofs.Ytbbfbccemonihaa
open Go.RowKit

def cm (r : Rws) (i j : Nat) : Bool := eqI (thn (r.getD i []) (r.getD j [])) (thn (r.getD j []) (r.getD i []))
def cmAll (r : Rws) : Bool := (List.range r.length).all fun i => (List.range r.length).all fun j => cm r i j
def dcB (r : Rws) : Bool := alG r && cmAll r
theorem cm_symm (r : Rws) (i j : Nat) : cm r i j = cm r j i := by
  unfold cm eqI
  rw [decide_eq_decide]
  exact ⟨Eq.symm, Eq.symm⟩
theorem cm_refl (r : Rws) (i : Nat) : cm r i i = true := by simp [cm, eqI]
theorem cmAll_bad {r : Rws} {i j : Nat} (hi : i < r.length) (hj : j < r.length) (h : cm r i j = false) : cmAll r = false := by
  unfold cmAll
  rw [List.all_eq_false]
  refine ⟨i, by simpa using hi, ?_⟩
  rw [Bool.not_eq_true, List.all_eq_false]
  exact ⟨j, by simpa using hj, by rw [h]; decide⟩
theorem cmAll_good {r : Rws} (h : ∀ i, i < r.length → ∀ j, j < r.length → cm r i j = true) : cmAll r = true := by
  unfold cmAll
  rw [List.all_eq_true]
  intro i hi
  rw [List.all_eq_true]
  intro j hj
  exact h i (by simpa using hi) j (by simpa using hj)
theorem al_pt {r : Rws} (h : allA r = true) {k : Nat} (hk : k < r.length) : (r.getD k []).length = (r.getD 0 []).length ∧ Pt (r.getD 0 []).length (r.getD k []) ∧ (r.getD 0 []).length ≤ 8 := by
  obtain ⟨h1, h2⟩ := allA_at h hk
  obtain ⟨_, h3, _, h4⟩ := isPm_facts h2
  rw [h1] at h3 h4
  exact ⟨h1, h4, h3⟩

set_option maxRecDepth 100000 in
set_option maxHeartbeats 4000000 in
theorem specDC_any (B : Nat) (A : Option Addr) (c : Nat) (f : Nat → Option Addr × Nat) (r : Rws) (w : World) (hB : B ≤ w.heap.size) (hR : r.length ≤ 1048576) (hrow : ∀ i, i < r.length → (r.getD i []).length ≤ 1048576) (hr : RdW w B A f r) :
    Calls Try.prog 51 #[.slice A r.length c] w fun e w' => e = .returned (.tuple #[.bool (dcB r), .bool (alG r)]) ∧ Below w.heap.size w w' := by
  have HA := Lib.hid (moAlike_any B A c f r w hB hR hrow hr)
  cases hal : alG r with
  | false =>
    have E := Lib.hid (show dcB r = false by unfold dcB; rw [hal]; rfl)
    rw [hal] at HA
    clear hr hrow
    go_enter Try.func51, Try.ntmps51
    go_wp2_with fail
    go_at_call 95
    refine HA.out.mono ?_
    rintro e w2 ⟨rfl, hb2⟩
    have HB := Lib.hid hb2
    clear hb2
    go_wp2
    go_ret2
    exact ⟨by rw [E.out]; rfl, HB.out⟩
  | true =>
    rw [hal] at HA
    have hall : allA r = true := by
      unfold alG at hal
      rw [Bool.and_eq_true] at hal
      exact hal.2
    have EV := Lib.hid (show dcB r = cmAll r by unfold dcB; rw [hal]; rfl)
    have H := Lib.hid hr
    obtain ⟨n, hn⟩ : ∃ a, (r.getD 0 []).length = a := ⟨_, rfl⟩
    have PT := Lib.hid (show ∀ k, k < r.length → (r.getD k []).length = n ∧ Pt n (r.getD k []) ∧ n ≤ 8 from fun k hk => by rw [← hn]; exact al_pt hall hk)
    have MT := Lib.hid (show ∀ (i j : Nat) (W : World), i < r.length → j < r.length → w.heap.size ≤ W.heap.size → RdW W B A f r → Calls Try.prog 87 #[.slice (f i).1 n (f i).2, .slice (f j).1 n (f j).2] W fun e w' => ∃ A2 c2, e = .returned (.slice A2 n c2) ∧ OwI w' W.heap.size (.slice A2 n c2) (thn (r.getD i []) (r.getD j [])) ∧ Below W.heap.size W w' from fun i j W hi hj hW h => by
      obtain ⟨a1, a2, a3⟩ := PT.out i hi
      obtain ⟨b1, b2, _⟩ := PT.out j hj
      exact moThen_any B n _ _ _ _ _ _ W a3 (by omega) a2 b2 (by rw [← a1]; exact (h.2 i hi).1) (by rw [← b1]; exact (h.2 j hj).1))
    have SM := Lib.hid (show ∀ (i j : Nat) (A3 A4 : Option Addr) (c3 c4 : Nat) (W : World) (b : Bool), i < r.length → j < r.length → cm r i j = b → Rd W W.heap.size 1 A3 n ((thn (r.getD i []) (r.getD j [])).map I) → Rd W W.heap.size 1 A4 n ((thn (r.getD j []) (r.getD i [])).map I) → Calls Try.prog 93 #[.slice A3 n c3, .slice A4 n c4] W fun e w' => e = .returned (.bool b) ∧ Dr W w' from fun i j A3 A4 c3 c4 W b hi hj hb h3 h4 => by
      obtain ⟨a1, a2, a3⟩ := PT.out i hi
      obtain ⟨b1, b2, _⟩ := PT.out j hj
      have L1 : (thn (r.getD i []) (r.getD j [])).length = n := by rw [thn_len, a1]
      have L2 : (thn (r.getD j []) (r.getD i [])).length = n := by rw [thn_len, b1]
      have h := l1Same_any W.heap.size A3 A4 c3 c4 (thn (r.getD i []) (r.getD j [])) (thn (r.getD j []) (r.getD i [])) W (by omega) (by omega) (by rw [L1]; exact h3) (by rw [L2]; exact h4)
      rw [L1, L2, show eqI (thn (r.getD i []) (r.getD j [])) (thn (r.getD j []) (r.getD i [])) = b from hb] at h
      exact h)
    have RD := Lib.hid (show ∀ (i j : Nat) (A3 : Option Addr) (c3 B3 : Nat) (W : World), i < r.length → OwI W B3 (.slice A3 n c3) (thn (r.getD i []) (r.getD j [])) → Rd W W.heap.size 1 A3 n ((thn (r.getD i []) (r.getD j [])).map I) from fun i j A3 c3 B3 W hi ho => by
      have L1 : (thn (r.getD i []) (r.getD j [])).length = n := by rw [thn_len, (PT.out i hi).1]
      have h := OwI.rd (l := thn (r.getD i []) (r.getD j [])) (c := c3) (A := A3) (w := W) (B := B3) (by rw [L1]; exact ho)
      rw [L1] at h
      exact h)
    clear hr hrow hall hn hal
    go_enter Try.func51, Try.ntmps51
    go_wp2_with fail
    go_at_call 95
    refine HA.out.mono ?_
    rintro e w2 ⟨rfl, hb2⟩
    have HB := Lib.hid hb2
    have hs2 := hb2.size
    clear hb2
    go_wp2
    go_loopw [13] (fun iv wr => ∃ k : Nat, k ≤ r.length ∧ iv = .int .i64 (k : Int) ∧ Hid (∀ i, i < k → ∀ j, j < r.length → cm r i j = true) ∧ Hid (Below w.heap.size w wr)) (fun iv _ => r.length - (intOf iv).toNat)
    case atStart => exact ⟨0, by omega, rfl, Lib.hid (fun i hi => absurd hi (by omega)), HB⟩
    case round =>
      obtain ⟨k, hk, rfl, hok, hbel⟩ := hrel
      have hsz := hbel.out.size
      by_cases hlt : k < r.length
      · obtain ⟨b, off, rfl, hb, hc⟩ := (H.out.below' hbel.out hB).at_ hlt
        rw [(PT.out k hlt).1] at hc
        have ik : (k : Int) < (r.length : Int) := by omega
        go_wp2
        go_loopw [19] (fun iv wq => ∃ m : Nat, m ≤ r.length ∧ iv = .int .i64 (m : Int) ∧ Hid (∀ j, j < m → cm r k j = true) ∧ Hid (Below w.heap.size w wq)) (fun iv _ => r.length - (intOf iv).toNat)
        case atStart => exact ⟨0, by omega, rfl, Lib.hid (fun i hi => absurd hi (by omega)), hbel⟩
        case round =>
          obtain ⟨m, hm, rfl, hokm, hbelm⟩ := hrel
          have hszm := hbelm.out.size
          by_cases hltm : m < r.length
          · obtain ⟨b', off', hbb, _, hcm⟩ := (H.out.below' hbelm.out hB).at_ hltm
            obtain ⟨rfl, rfl⟩ : b = b' ∧ off = off' := by injection hbb with hbb; injection hbb with h1 h2; exact ⟨h1, h2⟩
            rw [(PT.out m hltm).1] at hcm
            have im : (m : Int) < (r.length : Int) := by omega
            have C1 := Lib.hid (MT.out k m _ hlt hltm hszm (H.out.below' hbelm.out hB))
            go_wp2_with fail
            go_at_call 87
            refine C1.out.mono ?_
            rintro e w3 ⟨A3, c3, rfl, ho3, hb3⟩
            have BEL3 := Lib.hid (hbelm.out.trans (hb3.mono hszm))
            have O3 := Lib.hid ho3
            have hs3 := hb3.size
            clear hb3 ho3
            have C2 := Lib.hid (MT.out m k w3 hltm hlt (by omega) (H.out.below' BEL3.out hB))
            go_wp2_with fail
            go_at_call 87
            refine C2.out.mono ?_
            rintro e w4 ⟨A4, c4, rfl, ho4, hb4⟩
            have BEL4 := Lib.hid (BEL3.out.trans (hb4.mono (by omega)))
            have RO3 := Lib.hid (RD.out k m A3 c3 _ w4 hlt (O3.out.below hb4))
            have RO4 := Lib.hid (RD.out m k A4 c4 _ w4 hltm ho4)
            clear hb4 ho4
            cases hcmv : cm r k m with
            | true =>
              have S := Lib.hid (SM.out k m A3 A4 c3 c4 w4 true hlt hltm hcmv RO3.out RO4.out)
              have CV := Lib.hid hcmv
              clear hcmv
              go_wp2_with fail
              go_at_call 93
              refine S.out.mono ?_
              rintro e w5 ⟨rfl, hd⟩
              have BEL5 := Lib.hid (BEL4.out.trans ((hd.below w4.heap.size).mono (by have := BEL4.out.size; omega)))
              clear hd
              go_wp2
              go_roundw
              case rel => exact ⟨m + 1, by omega, by go_num, Lib.hid (fun i hi => by
                rcases Nat.lt_or_eq_of_le (show i ≤ m by omega) with h | rfl
                · exact hokm.out i h
                · exact CV.out), BEL5⟩
              case measure => simp [intOf]; omega
            | false =>
              have S := Lib.hid (SM.out k m A3 A4 c3 c4 w4 false hlt hltm hcmv RO3.out RO4.out)
              have E := Lib.hid (show dcB r = false by rw [EV.out]; exact cmAll_bad hlt hltm hcmv)
              clear hcmv
              go_wp2_with fail
              go_at_call 93
              refine S.out.mono ?_
              rintro e w5 ⟨rfl, hd⟩
              have BEL5 := Lib.hid (BEL4.out.trans ((hd.below w4.heap.size).mono (by have := BEL4.out.size; omega)))
              clear hd
              go_wp2
              go_ret2
              exact ⟨by rw [E.out]; rfl, BEL5.out⟩
          · have hm' : m = r.length := by omega
            subst hm'
            go_wp2
            go_roundw
            case rel => exact ⟨k + 1, by omega, by go_num, Lib.hid (fun i hi => by
              rcases Nat.lt_or_eq_of_le (show i ≤ k by omega) with h | rfl
              · exact hok.out i h
              · exact hokm.out), hbelm⟩
            case measure => simp [intOf]; omega
      · have hk' : k = r.length := by omega
        have E := Lib.hid (show dcB r = true by rw [EV.out]; exact cmAll_good (fun i hi => hok.out i (by omega)))
        subst hk'
        go_wp2
        go_ret2
        exact ⟨by rw [E.out]; rfl, hbel.out⟩
end Go.Proofs.Ytbbfbccemonihaa
