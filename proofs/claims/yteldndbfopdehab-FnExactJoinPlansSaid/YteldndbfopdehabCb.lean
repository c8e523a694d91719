/- The program's new operands of steps, by any list of names. -/
import Derived.Test.YteldndbfopdehabCa
import Derived.Test.YteldndbfopdehabKc
namespace Go.Proofs.Yteldndbfopdehab
open Go.RowKit

/-- A step with the names of its operands, the smaller one first. -/
def stN (nm : List Int) (st : Int × Int) : Int × Int := stI (nm.getD st.1.toNat 0) (nm.getD st.2.toNat 0)

set_option maxRecDepth 100000 in
set_option maxHeartbeats 2000000 in
theorem renamedStepsN_any (B : Nat) (A A2 : Option Addr) (c c2 : Nat) (s : List (Int × Int)) (nm : List Int) (w : World) (hm : s.length ≤ 1000) (hB : B ≤ w.heap.size) (hin : ∀ st ∈ s, 0 ≤ st.1 ∧ st.1 ≤ st.2 ∧ st.2 < (nm.length : Int)) (hr : Rd w B 2 A s.length (fl s)) (hrn : Rd w B 1 A2 nm.length (nm.map I)) :
    Calls Try.prog 99 #[.slice A s.length c, .slice A2 nm.length c2] w fun e w' => ∃ A' c', e = .returned (.slice A' s.length c') ∧ OwS w' w.heap.size (.slice A' s.length c') (s.map (stN nm)) ∧ Below w.heap.size w w' := by
  have H := Lib.hid hr
  have HN := Lib.hid hrn
  have HIN := Lib.hid hin
  clear hr hrn hin
  obtain ⟨T, hT⟩ : ∃ T, s.map (stN nm) = T := ⟨_, rfl⟩
  have hTl : T.length = s.length := by rw [← hT]; simp
  have hTat : ∀ k (h : k < s.length) (h' : k < T.length), T[k] = stN nm s[k] := fun k h h' => by subst hT; simp
  rw [hT]
  have HTL := Lib.hid hTl
  have HTA := Lib.hid hTat
  clear hT hTl hTat
  obtain ⟨i0, hi, hz0, hz1, hz2⟩ := info_parts info_step
  have hmk : ∀ W : World, (Instr.makeSlice 33 (.int .i64 (s.length : Int)) (.int .i64 (s.length : Int))).run Try.prog W = .ok (.slice (some ⟨W.heap.size, 0, none⟩) s.length s.length) (W.alloc (.cells (madeCells #[.int .i64 0, .int .i64 0] (s.length * 2)) 74)) := fun W => by
    have hr := run_make (P := Try.prog) W 33 74 i0 _ Try.underlying33 hi hz0 .i64 .i64 s.length s.length (by omega) (Int.le_refl _) (by rw [hz2]; omega) (by omega)
    simp only [Int.toNat_natCast] at hr
    rw [hz1] at hr
    exact hr
  have hmade : (w.alloc (.cells (madeCells #[.int .i64 0, .int .i64 0] (s.length * 2)) 74)).ownsRow w.heap.size 74 2 (.slice (some ⟨w.heap.size, 0, none⟩) s.length s.length) s.length (fl (T.take 0) ++ List.replicate ((s.length - 0) * 2) (I 0)) := by
    have h := World.ownsRow_lit (base := w.heap.size) (e := 74) (size := 2) w (madeCells #[Value.int .i64 0, .int .i64 0] (s.length * 2)) s.length (Nat.le_refl _) (by unfold maxLen; omega) (by simp [size_madeCells])
    rw [made2] at h
    simpa [fl] using h
  have HM := Lib.hid hmade
  clear hmade hi hz0 hz1 hz2
  go_enter Try.func99, Try.ntmps99
  go_wp2
  clear hmk
  go_loopw [13] (fun i wr => ∃ k : Nat, k ≤ s.length ∧ i = .int .i64 k ∧ wr.ownsRow w.heap.size 74 2 (.slice (some ⟨w.heap.size, 0, none⟩) s.length s.length) s.length (fl (T.take k) ++ List.replicate ((s.length - k) * 2) (I 0)) ∧ Below w.heap.size w wr) (fun i _ => s.length - (intOf i).toNat)
  case atStart => exact ⟨0, by omega, rfl, HM.out, (Below.refl _ _).alloc (Nat.le_refl _) _⟩
  case round =>
    obtain ⟨k, hk, rfl, hown, hbel⟩ := hrel
    have hsz : w.heap.size ≤ wr.heap.size := hbel.size
    by_cases hlt : k < s.length
    · obtain ⟨i1, i2, i3⟩ := HIN.out _ (List.getElem_mem hlt)
      obtain ⟨b, off, rfl, hb, hc1, hc2⟩ := (H.out.below' hbel (by omega)).stp hlt
      obtain ⟨x, hx⟩ : ∃ x : Nat, (s[k]).1 = x := ⟨(s[k]).1.toNat, by omega⟩
      obtain ⟨y, hy⟩ : ∃ y : Nat, (s[k]).2 = y := ⟨(s[k]).2.toNat, by omega⟩
      rw [hx] at hc1
      rw [hy] at hc2
      have hxl : x < nm.length := by omega
      have hyl : y < nm.length := by omega
      have hE := fun W hBW hrW => renamedStep_any B x y A2 c2 nm W hBW (by exact hxl) (by exact hyl) hrW
      have hta : T[k]'(by have := HTL.out; omega) = (leastI nm[x] nm[y], mostI nm[x] nm[y]) := by
        rw [HTA.out k hlt (by have := HTL.out; omega)]
        unfold stN stI
        rw [hx, hy]
        simp [hxl, hyl]
      have HE := Lib.hid hE
      have HTAK := Lib.hid hta
      have BEL := Lib.hid hbel
      have OWN := Lib.hid hown
      clear hown hbel hE hta hx hy i1 i2 i3
      go_wp2_with fail
      go_at_call 109
      generalize hw4 : World.alloc wr _ = w4
      obtain ⟨e0, e1, es, eb⟩ := box2 hw4
      clear hw4
      have hbw4 : Below w.heap.size w w4 := BEL.out.trans (eb.mono hsz)
      refine (HE.out w4 (by have := hbw4.size; omega) (HN.out.below' hbw4 hB)).mono ?_
      rintro e w5 ⟨rfl, hb5⟩
      have hb45 : Below wr.heap.size wr w5 := eb.trans (hb5.mono eb.size)
      have hown5 := own_below OWN.out hb45
      have hl : (fl (T.take k)).length = k * 2 := by rw [fl_length]; have := HTL.out; simp; omega
      have d0 : w5.cell? ⟨w.heap.size, k * 2, none⟩ = some (I 0) := by
        rw [hown5.cellAt _ (by omega)]
        exact rep_at (by omega) (by omega)
      have d1 : w5.cell? ⟨w.heap.size, k * 2 + 1, none⟩ = some (I 0) := by
        rw [hown5.cellAt _ (by omega)]
        exact rep_at (by omega) (by omega)
      have f0 : w5.frozen? ⟨w.heap.size, k * 2, none⟩ = false := hown5.frozenAt _
      have f1 : w5.frozen? ⟨w.heap.size, k * 2 + 1, none⟩ = false := hown5.frozenAt _
      have HB5 := Lib.hid (BEL.out.trans (hb45.mono hsz))
      have OWN5 := Lib.hid hown5
      clear hb5 hown5 hl hb45 hbw4 eb e0 e1
      go_wp2
      go_roundw
      case rel =>
        refine ⟨k + 1, by omega, by go_num, ?_, ((HB5.out.setCell (Nat.le_refl _) _).setCell (Nat.le_refl _) _)⟩
        have h := ((OWN5.out.stored (k * 2) (I (leastI nm[x] nm[y]))).1.stored (k * 2 + 1) (I (mostI nm[x] nm[y]))).1
        have hf := fill_step T k (by have := HTL.out; omega)
        rw [HTAK.out, HTL.out] at hf
        rw [hf] at h
        exact h
      case measure => simp [intOf]; omega
    · have hk' : k = s.length := by omega
      have BEL := Lib.hid hbel
      have OWN := Lib.hid hown
      subst hk'
      clear hown hbel
      go_wp2
      go_ret
      refine ⟨_, _, rfl, ?_, BEL.out⟩
      have h := OWN.out
      rw [List.take_of_length_le (by have := HTL.out; omega)] at h
      show World.ownsRow _ _ _ _ _ _ _
      rw [HTL.out]
      simpa using h
end Go.Proofs.Yteldndbfopdehab
