/- Texts of lists of numbers, by the model. -/
import Derived.Test.YtbbjgcagkmlngadDoorTx
import Derived.Lib.Join
namespace Go.Proofs.YtbbjgcagkmlngadDoor
open Go.RowKit

def ddI (x : Int) : List UInt8 := Lib.decDigits x.toNat
/-- Numbers in decimal with a byte between them. -/
def txt (c : UInt8) (l : List Int) : List UInt8 := Lib.join (l.map ddI) [c]
theorem txt_nil (c : UInt8) : txt c [] = [] := rfl
theorem join_len : ∀ (xs : List (List UInt8)) (sep : List UInt8) (m : Nat), (∀ x ∈ xs, x.length ≤ m) → (Lib.join xs sep).length ≤ (m + sep.length) * xs.length := by
  intro xs
  have key : ∀ (r : List (List UInt8)) (sep : List UInt8) (m : Nat), (∀ x ∈ r, x.length ≤ m) → (Lib.joinTail sep r).length ≤ (m + sep.length) * r.length := by
    intro r
    induction r with
    | nil => intro sep m _; simp [Lib.joinTail]
    | cons y r ih =>
      intro sep m h
      have h1 := ih sep m (fun x hx => h x (by simp [hx]))
      have h2 := h y (by simp)
      have e : Lib.joinTail sep (y :: r) = sep ++ y ++ Lib.joinTail sep r := by simp [Lib.joinTail]
      rw [e, List.length_append, List.length_append, List.length_cons, Nat.mul_succ]
      omega
  cases xs with
  | nil => intro sep m _; simp [Lib.join_nil]
  | cons x r =>
    intro sep m h
    rw [Lib.join_cons, List.length_append, List.length_cons, Nat.mul_succ]
    have h1 := key r sep m (fun y hy => h y (by simp [hy]))
    have h2 := h x (by simp)
    omega
theorem join_take {xs : List (List UInt8)} {sep : List UInt8} {k : Nat} (hk : k < xs.length) : Lib.join (xs.take (k + 1)) sep = if k = 0 then xs[k] else Lib.join (xs.take k) sep ++ sep ++ xs[k] := by
  cases xs with
  | nil => simp at hk
  | cons x r =>
    cases k with
    | zero => simp [Lib.join_one]
    | succ k =>
      have hk' : k < r.length := by simpa using hk
      rw [List.take_succ_cons, List.take_succ_cons, Lib.join_cons, Lib.join_cons, if_neg (by omega), Lib.joinTail_take_succ sep r k r[k] (List.getElem?_eq_getElem hk')]
      simp [List.append_assoc]
theorem ddI_len {x : Int} (h : x ≤ 1000000) : (ddI x).length ≤ 7 := dd_len7 (by omega)
theorem ddI_ne (x : Int) : ddI x ≠ [] := by
  unfold ddI
  rw [Lib.decDigits]
  split <;> simp
theorem txt_take {c : UInt8} {l : List Int} {k : Nat} (hk : k < l.length) : txt c (l.take (k + 1)) = if k = 0 then ddI l[k] else txt c (l.take k) ++ [c] ++ ddI l[k] := by
  have h := join_take (xs := l.map ddI) (sep := [c]) (k := k) (by simpa using hk)
  unfold txt
  rw [List.map_take, List.map_take, h]
  simp
theorem txt_len {c : UInt8} {l : List Int} (h : ∀ x ∈ l, x ≤ 1000000) : (txt c l).length ≤ 8 * l.length := by
  have h1 := join_len (l.map ddI) [c] 7 (fun y hy => by
    obtain ⟨x, hx, rfl⟩ := List.mem_map.1 hy
    exact ddI_len (h x hx))
  simpa [txt] using h1

set_option maxRecDepth 100000 in
set_option maxHeartbeats 2000000 in
theorem chText_any (B : Nat) (A : Option Addr) (c : Nat) (l : List Int) (w : World) (hl : l.length ≤ 1000) (hrng : ∀ x ∈ l, 0 ≤ x ∧ x ≤ 1000000) (hB : B ≤ w.heap.size) (hr : Rd w B 1 A l.length (l.map I)) :
    Calls Tryd.prog 26 #[.slice A l.length c] w fun e w' => e = .returned (.string ⟨(txt 32 l).toArray⟩) ∧ Below w.heap.size w w' := by
  have H := Lib.hid hr
  have RNG := Lib.hid hrng
  clear hr hrng
  go_enter Tryd.func26, Tryd.ntmps26
  go_wp2
  go_loopw [3, 8] (fun sv iv wr => ∃ (k : Nat) (T : List UInt8), k ≤ l.length ∧ iv = .int .i64 (k : Int) ∧ sv = .string ⟨T.toArray⟩ ∧ T = txt 32 (l.take k) ∧ T.length ≤ 8 * k ∧ Below w.heap.size w wr) (fun _ iv _ => l.length - (intOf iv).toNat)
  case atStart => exact ⟨0, [], by omega, rfl, rfl, rfl, by simp, Below.refl _ _⟩
  case round =>
    obtain ⟨k, T, hk, rfl, rfl, hT, hTl, hbel⟩ := hrel
    have HT := Lib.hid hT
    have BEL := Lib.hid hbel
    clear hT hbel
    by_cases hlt : k < l.length
    · obtain ⟨b, off, rfl, hbB, hcell⟩ := H.out.int hlt
      obtain ⟨x, hx⟩ : ∃ x, l[k] = x := ⟨_, rfl⟩
      have hxr := RNG.out x (by rw [← hx]; exact List.getElem_mem hlt)
      obtain ⟨m, rfl⟩ : ∃ m : Nat, x = m := ⟨x.toNat, by omega⟩
      rw [hx] at hcell
      have ht := txt_take (c := 32) hlt
      rw [hx, ← HT.out] at ht
      have hc := (BEL.out.cell (p := ⟨b, off + k, none⟩) (by simp only []; omega)).trans hcell
      have HN := Lib.hid (fun W => l1Num_any m m W (Nat.le_refl _) (by omega))
      have hD := dd_len7 (n := m) (by omega)
      obtain ⟨D, hDD⟩ : ∃ D, Lib.decDigits m = D := ⟨_, rfl⟩
      rw [show ddI (m : Int) = D by rw [← hDD]; rfl] at ht
      rw [hDD] at HN hD
      have il : (k : Int) < (l.length : Int) := by omega
      have HTT := Lib.hid ht
      clear hcell hx ht hDD
      by_cases h0 : k = 0
      · subst h0
        have hT0 : T = [] := List.eq_nil_of_length_eq_zero (by omega)
        subst hT0
        have hs : ¬ 9223372036854775807 < D.length := by omega
        rw [Nat.add_zero] at hc
        clear hTl
        go_wp2_with (go_at_call 57; refine (HN.out _).mono ?_; rintro e w2 ⟨rfl, hb2⟩)
        go_roundw
        case rel => exact ⟨1, D, by omega, rfl, rfl, by rw [HTT.out, if_pos trivial], by omega, BEL.out.trans (hb2.mono BEL.out.size)⟩
        case measure => simp [intOf]; omega
      · have ik : (0 : Int) < (k : Int) := by omega
        have hs1 : ¬ 9223372036854775807 < T.length + 1 := by omega
        have hs2 : ¬ 9223372036854775807 < T.length + 1 + D.length := by omega
        have hkn := Lib.hid h0
        clear h0
        go_wp2_with (go_at_call 57; refine (HN.out _).mono ?_; rintro e w2 ⟨rfl, hb2⟩)
        go_roundw
        case rel => exact ⟨k + 1, T ++ [32] ++ D, by omega, by go_num, rfl, by rw [HTT.out, if_neg hkn.out], by simp; omega, BEL.out.trans (hb2.mono BEL.out.size)⟩
        case measure => simp [intOf]; omega
    · have e : k = l.length := by omega
      have ek := Lib.hid e
      have il : ¬ (k : Int) < (l.length : Int) := by omega
      clear e
      go_wp2
      go_ret
      exact ⟨by rw [show txt 32 l = T by rw [HT.out, ek.out, List.take_length]]; rfl, BEL.out⟩
end Go.Proofs.YtbbjgcagkmlngadDoor
