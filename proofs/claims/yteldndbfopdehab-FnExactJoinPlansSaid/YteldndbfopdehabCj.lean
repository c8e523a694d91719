/- The numbers 0..n-1, of the model; plans beside each other as data. -/
import Derived.Test.YteldndbfopdehabCe
import Derived.Test.YteldndbfopdehabCi
namespace Go.Proofs.Yteldndbfopdehab
open Go.RowKit

set_option maxRecDepth 100000 in
set_option maxHeartbeats 1000000 in
theorem plUpTo_any (N : Nat) (w : World) (h6 : N ≤ 1000) :
    Calls Try.prog 68 #[.int .i64 (N : Int)] w fun e w' => ∃ A c, e = .returned (.slice A N c) ∧ OwI w' w.heap.size (.slice A N c) (ups N) ∧ Below w.heap.size w w' := by
  go_enter Try.func68, Try.ntmps68
  go_wp2
  go_loopw [3, 4] (fun v i wr => ∃ (k : Nat) (A : Option Addr) (c : Nat), k ≤ N ∧ i = .int .i64 k ∧ v = .slice A k c ∧ wr.ownsRow w.heap.size 3 1 (.slice A k c) k ((ups k).map I) ∧ Below w.heap.size w wr) (fun _ i _ => N - (intOf i).toNat)
  case atStart => exact ⟨0, none, 0, by omega, rfl, rfl, World.ownsRow_nil _ _ _ _, Below.refl _ _⟩
  case round =>
    obtain ⟨k, A, c, hk, rfl, rfl, hown, hbel⟩ := hrel
    have hsz := hbel.size
    have OWN := Lib.hid hown
    have BEL := Lib.hid hbel
    clear hown hbel
    by_cases hlt : k < N
    · go_wp2_with (at_builtin; refine list_step (fun K hK => ?_); refine step_app1 Try.underlying22 info_int rfl (by omega) rfl (.tmp 10) (.tmp 12) rfl w.heap.size k _ ((ups k).map I) rfl (World.ownsRow.alloc OWN.out _) wr.heap.size 1 (I (k : Int)) rfl (by rw [World.cell?_alloc_at _ _ _ _ rfl]; rfl) rfl (by omega) (by simp; omega) ?_; intro A5 c5 w6 hown6 hg6 hbel6; go_simp; refine hK _ _ ?_; clear hK K)
      go_roundw
      case rel =>
        refine ⟨k + 1, A5, c5, by omega, by go_num, rfl, ?_, (BEL.out.alloc hsz _).trans hbel6⟩
        rw [ups_succ, List.map_append]
        exact hown6
      case measure => simp [intOf]; omega
    · have hk' : k = N := by omega
      subst hk'
      go_wp2
      go_ret
      refine ⟨A, c, rfl, ?_, BEL.out⟩
      show World.ownsRow _ _ _ _ _ _ _
      rw [ups_length]
      exact OWN.out

def joinNm (p q : Pl) : List Int := ups p.n.toNat ++ tailN (p.n + p.s.length) q.s.length
def joinD (p q : Pl) : Pl := ⟨p.n, p.s ++ q.s.map (stN (joinNm p q)), p.o ++ q.o.map fun x => (joinNm p q).getD x.toNat 0⟩
def joinB (p q : Pl) : Bool := (good p && (good q && decide (p.n = q.n))) && good (joinD p q)
def joinR (p q : Pl) : Pl := if joinB p q then joinD p q else zeroP
theorem joinR_true {p q : Pl} (h : joinB p q = true) : joinR p q = joinD p q := by unfold joinR; rw [if_pos h]
theorem joinR_false {p q : Pl} (h : joinB p q = false) : joinR p q = zeroP := by unfold joinR; rw [if_neg (by rw [h]; decide)]
theorem joinD_s (p q : Pl) : (joinD p q).s.length = p.s.length + q.s.length := by simp [joinD]
theorem joinD_o (p q : Pl) : (joinD p q).o.length = p.o.length + q.o.length := by simp [joinD]
end Go.Proofs.Yteldndbfopdehab
