/- Texts of plans, by the model. -/
import Derived.Test.YtodjnafalbbmjabDoorTy
import Derived.Test.YtodjnafalbbmjabDoorSc
import Derived.Test.YtodjnafalbbmjabDoorFa
namespace Go.Proofs.YtodjnafalbbmjabDoor
open Go.RowKit

/-- A list's text, a minus sign for none. -/
def lsT (l : List Int) : List UInt8 := if l = [] then [45] else txt 44 l
def stT (p : Int × Int) : List UInt8 := ddI p.1 ++ [42] ++ ddI p.2
def sTx (s : List (Int × Int)) : List UInt8 := Lib.join (s.map stT) [44]
def sLT (s : List (Int × Int)) : List UInt8 := if s = [] then [45] else sTx s
def plT (p : Pl) : List UInt8 := ddI p.n ++ [58] ++ sLT p.s ++ [58] ++ lsT p.o
theorem lsT_len {l : List Int} (h : ∀ x ∈ l, x ≤ 1000000) : (lsT l).length ≤ 8 * l.length + 1 := by
  unfold lsT
  split
  · simp
  · have := txt_len (c := 44) h; omega
theorem stT_len {p : Int × Int} (h1 : p.1 ≤ 1000000) (h2 : p.2 ≤ 1000000) : (stT p).length ≤ 15 := by
  unfold stT
  have h3 := ddI_len h1
  have h4 := ddI_len h2
  simp
  omega
theorem sTx_take {s : List (Int × Int)} {k : Nat} (hk : k < s.length) : sTx (s.take (k + 1)) = if k = 0 then stT s[k] else sTx (s.take k) ++ [44] ++ stT s[k] := by
  have h := join_take (xs := s.map stT) (sep := [44]) (k := k) (by simpa using hk)
  unfold sTx
  rw [List.map_take, List.map_take, h]
  simp
theorem stT_ne (p : Int × Int) : stT p ≠ [] := by
  unfold stT
  simp
theorem sTx_ne {s : List (Int × Int)} (h : s ≠ []) : sTx s ≠ [] := by
  cases s with
  | nil => exact absurd rfl h
  | cons a r =>
    unfold sTx
    rw [List.map_cons, Lib.join_cons]
    intro e
    exact stT_ne a (List.append_eq_nil_iff.1 e).1
theorem sTx_len {s : List (Int × Int)} (h : ∀ p ∈ s, p.1 ≤ 1000000 ∧ p.2 ≤ 1000000) : (sTx s).length ≤ 16 * s.length := by
  have h1 := join_len (s.map stT) [44] 15 (fun y hy => by
    obtain ⟨p, hp, rfl⟩ := List.mem_map.1 hy
    exact stT_len (h p hp).1 (h p hp).2)
  simpa [sTx] using h1

set_option maxRecDepth 100000 in
set_option maxHeartbeats 2000000 in
theorem plList_any (B : Nat) (A : Option Addr) (c : Nat) (l : List Int) (w : World) (hl : l.length ≤ 1000) (hrng : ∀ x ∈ l, 0 ≤ x ∧ x ≤ 1000000) (hB : B ≤ w.heap.size) (hr : Rd w B 1 A l.length (l.map I)) :
    Calls Tryd.prog 62 #[.slice A l.length c] w fun e w' => e = .returned (.string ⟨(lsT l).toArray⟩) ∧ Below w.heap.size w w' := by
  have H := Lib.hid hr
  have RNG := Lib.hid hrng
  clear hr hrng
  by_cases hnil : l = []
  · subst hnil
    go_enter Tryd.func62, Tryd.ntmps62
    go_wp2
    go_ret
    exact ⟨rfl, Below.refl _ _⟩
  have E := Lib.hid (show lsT l = txt 44 l from by unfold lsT; rw [if_neg hnil])
  have hpos : 0 < l.length := List.length_pos_iff.2 hnil
  have hne : ((l.length : Int) == 0) = false := by simp; exact hnil
  clear hnil
  go_enter Tryd.func62, Tryd.ntmps62
  go_wp2
  go_loopw [3, 11] (fun sv iv wr => ∃ (k : Nat) (T : List UInt8), k ≤ l.length ∧ iv = .int .i64 (k : Int) ∧ sv = .string ⟨T.toArray⟩ ∧ T = txt 44 (l.take k) ∧ T.length ≤ 8 * k ∧ Below w.heap.size w wr) (fun _ iv _ => l.length - (intOf iv).toNat)
  case atStart => exact ⟨0, [], by omega, rfl, rfl, rfl, by simp, Below.refl _ _⟩
  case round =>
    obtain ⟨k, T, hk, rfl, rfl, hT, hTl, hbel⟩ := hrel
    have HT := Lib.hid hT
    have BEL := Lib.hid hbel
    clear hT hbel
    by_cases hlt : k < l.length
    · obtain ⟨b, off, rfl, hbB, hcell⟩ := H.out.int hlt
      obtain ⟨x, hx⟩ : ∃ x, l[k] = x := ⟨_, rfl⟩
      have hxr := RNG.out x (by rw [← hx]; exact List.getElem_mem hlt)
      obtain ⟨m, rfl⟩ : ∃ m : Nat, x = m := ⟨x.toNat, by omega⟩
      rw [hx] at hcell
      have ht := txt_take (c := 44) hlt
      rw [hx, ← HT.out] at ht
      have hc := (BEL.out.cell (p := ⟨b, off + k, none⟩) (by simp only []; omega)).trans hcell
      have HN := Lib.hid (fun W => l1Num_any m m W (Nat.le_refl _) (by omega))
      have hD := dd_len7 (n := m) (by omega)
      obtain ⟨D, hDD⟩ : ∃ D, Lib.decDigits m = D := ⟨_, rfl⟩
      rw [show ddI (m : Int) = D by rw [← hDD]; rfl] at ht
      rw [hDD] at HN hD
      have il : (k : Int) < (l.length : Int) := by omega
      have HTT := Lib.hid ht
      clear hcell hx ht hDD
      by_cases h0 : k = 0
      · subst h0
        have hT0 : T = [] := List.eq_nil_of_length_eq_zero (by omega)
        subst hT0
        have hs : ¬ 9223372036854775807 < D.length := by omega
        rw [Nat.add_zero] at hc
        clear hTl
        go_wp2_with (go_at_call 54; refine (HN.out _).mono ?_; rintro e w2 ⟨rfl, hb2⟩)
        go_roundw
        case rel => exact ⟨1, D, by omega, rfl, rfl, by rw [HTT.out, if_pos trivial], by omega, BEL.out.trans (hb2.mono BEL.out.size)⟩
        case measure => simp [intOf]; omega
      · have ik : (0 : Int) < (k : Int) := by omega
        have hs1 : ¬ 9223372036854775807 < T.length + 1 := by omega
        have hs2 : ¬ 9223372036854775807 < T.length + 1 + D.length := by omega
        have hkn := Lib.hid h0
        clear h0
        go_wp2_with (go_at_call 54; refine (HN.out _).mono ?_; rintro e w2 ⟨rfl, hb2⟩)
        go_roundw
        case rel => exact ⟨k + 1, T ++ [44] ++ D, by omega, by go_num, rfl, by rw [HTT.out, if_neg hkn.out], by simp; omega, BEL.out.trans (hb2.mono BEL.out.size)⟩
        case measure => simp [intOf]; omega
    · have e : k = l.length := by omega
      have ek := Lib.hid e
      have il : ¬ (k : Int) < (l.length : Int) := by omega
      clear e
      go_wp2
      go_ret
      exact ⟨by rw [E.out, show txt 44 l = T by rw [HT.out, ek.out, List.take_length]]; rfl, BEL.out⟩
end Go.Proofs.YtodjnafalbbmjabDoor
