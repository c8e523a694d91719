/- Plans run on residues, by the model. -/
import Derived.Test.YtbbfbccemonihabMod
import Derived.Test.YtbbfbccemonihabAp
import Derived.Test.YtbbfbccemonihabFa
namespace Go.Proofs.Ytbbfbccemonihab
open Go.RowKit

theorem outs_take (l o : List Int) {k : Nat} (hk : k < o.length) {v : Nat} (hv : o[k] = (v : Int)) (hl : v < l.length) : outs 0 l (o.take (k + 1)) = outs 0 l (o.take k) ++ [l[v]] := by
  unfold outs
  rw [List.take_succ_eq_append_getElem hk, List.map_append, hv]
  simp [hl]

set_option maxRecDepth 100000 in
set_option maxHeartbeats 2000000 in
theorem moPick_any (B : Nat) (A A' : Option Addr) (c c' : Nat) (l o : List Int) (w : World) (hl : o.length ≤ 1000) (hB : B ≤ w.heap.size) (hin : ∀ x ∈ o, 0 ≤ x ∧ x < l.length) (hr : Rd w B 1 A l.length (l.map I)) (hr' : Rd w B 1 A' o.length (o.map I)) :
    Calls Try.prog 87 #[.slice A l.length c, .slice A' o.length c'] w fun e w' => ∃ A2 c2, e = .returned (.slice A2 o.length c2) ∧ OwI w' w.heap.size (.slice A2 o.length c2) (outs 0 l o) ∧ Below w.heap.size w w' := by
  have H := Lib.hid hr
  have H' := Lib.hid hr'
  have HIN := Lib.hid hin
  clear hr hr' hin
  go_enter Try.func87, Try.ntmps87
  go_wp2
  go_loopw [5, 10] (fun ov iv wr => ∃ (k : Nat) (A1 : Option Addr) (c1 : Nat), k ≤ o.length ∧ iv = .int .i64 (k : Int) ∧ ov = .slice A1 k c1 ∧ OwI wr w.heap.size ov (outs 0 l (o.take k)) ∧ Below w.heap.size w wr) (fun _ iv _ => o.length - (intOf iv).toNat)
  case atStart => exact ⟨0, none, 0, by omega, rfl, rfl, OwI.nil _ _, Below.refl _ _⟩
  case round =>
    obtain ⟨k, A1, c1, hk, rfl, rfl, hown, hbel⟩ := hrel
    have OWN := Lib.hid hown
    have BEL := Lib.hid hbel
    have hs := hbel.size
    by_cases hlt : k < o.length
    · obtain ⟨ob, oo, rfl, hob, hoc⟩ := (H'.out.below' hbel hB).int hlt
      obtain ⟨q1, q2⟩ := HIN.out _ (List.getElem_mem hlt)
      obtain ⟨v, hv⟩ : ∃ v : Nat, o[k] = v := ⟨(o[k]).toNat, by omega⟩
      rw [hv] at hoc q2
      have hvl : v < l.length := by omega
      obtain ⟨nb, no, rfl, hnb, hnc⟩ := (H.out.below' hbel hB).int hvl
      have E1 := Lib.hid (outs_take l o hlt hv hvl)
      have EL := Lib.hid (show (outs 0 l (o.take k)).length = k by rw [outs_len, List.length_take]; omega)
      obtain ⟨u, hu⟩ : ∃ u, l[v] = u := ⟨_, rfl⟩
      rw [hu] at hnc E1
      have ik : (k : Int) < (o.length : Int) := by omega
      have iv : (v : Int) < (l.length : Int) := by omega
      clear hu hv q1 q2 hown hbel hvl
      go_wp2_with (at_builtin; refine list_step (fun K hK => ?_); refine step_app_int rfl (.tmp 14) (.tmp 19) rfl w.heap.size k _ (outs 0 l (o.take k)) rfl (OWN.out.alloc _) EL.out wr.heap.size 1 u rfl (by simp) (by omega) (by simp; omega) ?_; intro A3 c3 w3 hown3 hg3 hbel3; go_simp; refine hK _ _ ?_; clear hK K)
      go_roundw
      case rel => exact ⟨k + 1, A3, c3, by omega, by go_num, rfl, by rw [E1.out]; exact hown3, (BEL.out.alloc hs _).trans hbel3⟩
      case measure => simp [intOf]; omega
    · have hk' : k = o.length := by omega
      subst hk'
      rw [List.take_of_length_le (Nat.le_refl _)] at OWN
      clear hown hbel
      go_wp2
      go_ret
      exact ⟨A1, c1, rfl, OWN.out, BEL.out⟩

theorem getD_at {l : List Int} {i : Nat} (h : i < l.length) : l.getD i 0 = l[i] := by simp [h]

end Go.Proofs.Ytbbfbccemonihab
