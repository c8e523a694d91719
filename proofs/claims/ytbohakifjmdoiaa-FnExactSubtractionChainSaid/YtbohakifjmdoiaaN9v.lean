/- The greatest number of a list: of the library. -/
import Derived.Test.YtbohakifjmdoiaaBase2
import Derived.Test.YtbohakifjmdoiaaSa
namespace Go.Proofs.Ytbohakifjmdoiaa
open Go.RowKit
set_option maxRecDepth 100000 in
set_option maxHeartbeats 2000000 in
theorem maxI_any (B : Nat) (A : Option Addr) (c N : Nat) (l : List Int) (w : World) (hl : l.length = N + 1) (hm : N ≤ 1000000) (hr : Rd w B 1 A l.length (l.map I)) :
    Calls Try.prog 70 #[.slice A (N + 1) c] w fun e w' => (∃ m : Int, e = .returned (.int .i64 m) ∧ m ∈ l ∧ ∀ v ∈ l, v ≤ m) ∧ w = w' := by
  have H := Lib.hid hr
  have HL := Lib.hid hl
  have hp : 0 < l.length := by omega
  obtain ⟨b, off, eA, hb, hc0⟩ := hr.int hp
  rw [Nat.add_zero] at hc0
  have HX := Lib.hid (show l[0] ∈ l from List.getElem_mem hp)
  have HX0 := Lib.hid (show ∀ v ∈ l.take 1, v ≤ l[0] from fun v hv => by
    cases l with
    | nil => simp at hp
    | cons a l => simp at hv; subst hv; exact Int.le_refl _)
  obtain ⟨a0, ha0⟩ : ∃ a, l[0] = a := ⟨_, rfl⟩
  rw [ha0] at hc0 HX HX0
  subst eA
  clear hr hl ha0 hp
  go_enter Try.func70, Try.ntmps70
  go_wp2
  go_loopw [3, 4] (fun mv iv wr => ∃ (k : Nat) (m : Int), k ≤ N + 1 ∧ iv = .int .i64 (k : Int) ∧ mv = .int .i64 m ∧ m ∈ l ∧ (∀ v ∈ l.take k, v ≤ m) ∧ wr = w) (fun _ iv _ => N + 1 - (intOf iv).toNat)
  case atStart => exact ⟨1, a0, by omega, rfl, rfl, HX.out, HX0.out, rfl⟩
  case round =>
    obtain ⟨k, m, hk, rfl, rfl, hmem, hmx, rfl⟩ := hrel
    have HM := Lib.hid hmem
    have HMX := Lib.hid hmx
    clear hmem hmx
    by_cases hlt : k < N + 1
    · have hkl : k < l.length := by have := HL.out; omega
      obtain ⟨b2, off2, e2, hb2, hc⟩ := H.out.int hkl
      cases e2
      have HXM := Lib.hid (show l[k] ∈ l from List.getElem_mem hkl)
      have HTK := Lib.hid (show l.take (k + 1) = l.take k ++ [l[k]] from List.take_succ_eq_append_getElem hkl)
      obtain ⟨x, hx⟩ : ∃ x, l[k] = x := ⟨_, rfl⟩
      rw [hx] at hc HXM HTK
      have ik : (k : Int) < (N : Int) + 1 := by omega
      clear hx
      by_cases hxm : m < x
      · have E := Lib.hid (show ∀ v ∈ l.take (k + 1), v ≤ x from fun v hv => by
          rw [HTK.out] at hv
          rcases List.mem_append.1 hv with h | h
          · have := HMX.out v h; omega
          · simp at h; omega)
        go_wp2
        go_roundw
        case rel => exact ⟨k + 1, x, by omega, by go_num, rfl, HXM.out, E.out, trivial⟩
        case measure => simp [intOf]; omega
      · have E := Lib.hid (show ∀ v ∈ l.take (k + 1), v ≤ m from fun v hv => by
          rw [HTK.out] at hv
          rcases List.mem_append.1 hv with h | h
          · exact HMX.out v h
          · simp at h; omega)
        go_wp2
        go_roundw
        case rel => exact ⟨k + 1, m, by omega, by go_num, rfl, HM.out, E.out, trivial⟩
        case measure => simp [intOf]; omega
    · have hk' : k = N + 1 := by omega
      subst hk'
      have E := Lib.hid (show ∀ v ∈ l, v ≤ m from fun v hv => HMX.out v (by rw [List.take_of_length_le (by have := HL.out; omega)]; exact hv))
      go_wp2
      go_ret
      exact ⟨⟨m, rfl, HM.out, E.out⟩, rfl⟩
end Go.Proofs.Ytbohakifjmdoiaa
