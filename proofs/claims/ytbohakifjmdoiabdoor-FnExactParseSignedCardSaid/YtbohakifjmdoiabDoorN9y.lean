/- Texts of digits: as data; SignedText of the model. -/
import Derived.Test.YtbohakifjmdoiabDoorN9c
import Derived.Laws.BytesArg
namespace Go.Proofs.YtbohakifjmdoiabDoor
open Go.RowKit

/-- The letter of a digit. -/
def ltr (d : Int) : UInt8 := if d < 0 then 45 else if d = 0 then 48 else 43
/-- The letters of digits, the last one first. -/
def txD (l : List Int) : List UInt8 := (l.map ltr).reverse
theorem txD_take {l : List Int} {k : Nat} (hk : k < l.length) : txD (l.take (k + 1)) = ltr l[k] :: txD (l.take k) := by
  unfold txD
  rw [List.take_succ_eq_append_getElem hk, List.map_append, List.reverse_append]
  rfl
def stR (l : List Int) : List UInt8 := if isD l then (if l = [] then [61] else txD l) else []
theorem ba_app9 (l m : List UInt8) : (⟨l.toArray⟩ : ByteArray) ++ ⟨m.toArray⟩ = ⟨(l ++ m).toArray⟩ := by
  rw [ByteArray.mk_append_mk]

set_option maxRecDepth 100000 in
set_option maxHeartbeats 4000000 in
theorem specSignedText_any (B : Nat) (A : Option Addr) (c : Nat) (l : List Int) (w : World) (_hB : B ≤ w.heap.size) (hl : l.length ≤ 1048576) (_hcap : l.length ≤ c) (hr : Rd w B 1 A l.length (l.map I)) :
    Calls Tryd.prog 5 #[.slice A l.length c] w fun e w' => e = .returned (.tuple #[.string ⟨(stR l).toArray⟩, .bool (isD l)]) ∧ Below w.heap.size w w' := by
  have H := Lib.hid hr
  by_cases hbig : 1000000 < l.length
  · have E0 := Lib.hid (show isD l = false by unfold isD; rw [decide_eq_false (by omega)]; rfl)
    have ER := Lib.hid (show stR l = [] by unfold stR; rw [E0.out]; rfl)
    have ib : ¬ (l.length : Int) ≤ 24 := by omega
    have hC : Calls Tryd.prog 13 #[.slice A l.length c] w fun e w' => e = .returned (.bool false) ∧ w = w' := by
      go_enter Tryd.func13, Tryd.ntmps13
      go_wp2
      go_ret
      exact ⟨rfl, rfl⟩
    have HC := Lib.hid hC
    clear hC hr
    go_enter Tryd.func5, Tryd.ntmps5
    go_wp2_with (go_at_call 13; refine HC.out.mono ?_; rintro e w' ⟨rfl, rfl⟩)
    go_ret2
    exact ⟨by rw [ER.out, E0.out]; rfl, Below.refl _ _⟩
  have HD := siDigits_any B A c l w (by omega) hr
  obtain ⟨g, hg⟩ : ∃ g, isD l = g := ⟨_, rfl⟩
  rw [hg] at HD
  have HD := Lib.hid HD
  have HG := Lib.hid hg
  clear hr
  cases g with
  | false =>
    have ER := Lib.hid (show stR l = [] by unfold stR; rw [hg]; rfl)
    rw [hg]
    clear hg
    go_enter Tryd.func5, Tryd.ntmps5
    go_wp2_with (go_at_call 13; refine HD.out.mono ?_; rintro e w' ⟨rfl, rfl⟩)
    go_ret2
    exact ⟨by rw [ER.out]; rfl, Below.refl _ _⟩
  | true =>
  obtain ⟨hl24, hmem⟩ := isD_len hg
  have HM := Lib.hid hmem
  rw [hg]
  by_cases h0 : l.length = 0
  · have ln : l = [] := List.length_eq_zero_iff.1 h0
    have ER := Lib.hid (show stR l = [61] by unfold stR; rw [hg, ln]; rfl)
    have i0 : ((l.length : Int) == 0) = true := by simp [h0]
    clear hg hmem h0 ln
    go_enter Tryd.func5, Tryd.ntmps5
    go_wp2_with (go_at_call 13; refine HD.out.mono ?_; rintro e w' ⟨rfl, rfl⟩)
    go_ret2
    exact ⟨by rw [ER.out]; rfl, Below.refl _ _⟩
  · have ln : ¬ l = [] := fun e => h0 (by rw [e]; rfl)
    have ER := Lib.hid (show stR l = txD l by unfold stR; rw [hg, if_neg ln]; rfl)
    have i0 : ((l.length : Int) == 0) = false := by simpa using ln
    clear hg hmem h0 ln
    go_enter Tryd.func5, Tryd.ntmps5
    go_wp2_with (go_at_call 13; refine HD.out.mono ?_; rintro e w' ⟨rfl, rfl⟩)
    go_loopw [4, 15] (fun sv iv wr => ∃ k : Nat, k ≤ l.length ∧ iv = .int .i64 (k : Int) ∧ sv = .string ⟨(txD (l.take k)).toArray⟩ ∧ Below w.heap.size w wr) (fun _ iv _ => l.length - (intOf iv).toNat)
    case atStart => exact ⟨0, by omega, rfl, rfl, Below.refl _ _⟩
    case round =>
      obtain ⟨k, hk, rfl, rfl, hbel⟩ := hrel
      have hs := hbel.size
      have BEL := Lib.hid hbel
      clear hbel
      by_cases hlt : k < l.length
      · obtain ⟨b, off, eA, hb, hcell⟩ := (H.out.below' BEL.out _hB).int hlt
        have hd := HM.out _ (List.getElem_mem hlt)
        have ET := Lib.hid (txD_take hlt)
        have hsl : (txD (l.take k)).length ≤ 24 := by unfold txD; rw [List.length_reverse, List.length_map, List.length_take]; omega
        obtain ⟨d, hde⟩ : ∃ d, l[k] = d := ⟨_, rfl⟩
        rw [hde] at hcell hd ET
        obtain ⟨s, hse⟩ : ∃ s, txD (l.take k) = s := ⟨_, rfl⟩
        rw [hse] at ET hsl ⊢
        subst eA
        clear hde hse
        have hd3 : d = -1 ∨ d = 0 ∨ d = 1 := by omega
        rcases hd3 with rfl | rfl | rfl
        · go_wp2
          go_roundw
          case rel => exact ⟨k + 1, by omega, by go_num, by rw [ET.out]; exact congrArg Value.string (ba_app9 [45] s), BEL.out.alloc hs _⟩
          case measure => simp [intOf]; omega
        · go_wp2
          go_roundw
          case rel => exact ⟨k + 1, by omega, by go_num, by rw [ET.out]; exact congrArg Value.string (ba_app9 [48] s), BEL.out.alloc hs _⟩
          case measure => simp [intOf]; omega
        · go_wp2
          go_roundw
          case rel => exact ⟨k + 1, by omega, by go_num, by rw [ET.out]; exact congrArg Value.string (ba_app9 [43] s), BEL.out.alloc hs _⟩
          case measure => simp [intOf]; omega
      · have E := Lib.hid (show txD (l.take k) = txD l by rw [List.take_of_length_le (by omega)])
        go_wp2
        go_ret2
        exact ⟨by rw [ER.out, E.out]; rfl, BEL.out⟩
end Go.Proofs.YtbohakifjmdoiabDoor
