/- How many star chains there are: both sides. -/
import Derived.Test.YtppahohakiidmaaHq
namespace Go.Proofs.Ytppahohakiidmaa
open Go.RowKit

def csV (x y : Int) : Int := if lvG x y then (lvV x y).getD y.toNat 0 else 0
theorem csV_no {x y : Int} (h : lvG x y = false) : csV x y = 0 := by unfold csV; rw [h]; rfl
theorem lvG_at {x y : Int} (h : lvG x y = true) : ∃ n L : Nat, x = n ∧ y = L ∧ L ≤ 8 ∧ (lvV (n : Int) (L : Int)).length = L + 1 := by
  unfold lvG at h
  rw [Bool.and_eq_true] at h
  have r1 := isSh_rng h.1
  have r2 := isCt_rng h.2
  obtain ⟨n, rfl⟩ : ∃ n : Nat, x = n := ⟨x.toNat, by omega⟩
  obtain ⟨L, rfl⟩ : ∃ L : Nat, y = L := ⟨y.toNat, by omega⟩
  exact ⟨n, L, rfl, rfl, by omega, by rw [lvV_yes h.1 h.2, lvF_len]⟩

set_option maxRecDepth 100000 in
set_option maxHeartbeats 1000000 in
theorem specCount_any (x y : Int) (w : World) : Calls Try.prog 27 #[.int .i64 x, .int .i64 y] w fun e w' => e = .returned (.tuple #[.int .i64 (csV x y), .bool (lvG x y)]) ∧ Below w.heap.size w w' := by
  have hS := specLive_any x y w
  cases hg : lvG x y with
  | false =>
    have E := Lib.hid (csV_no hg)
    rw [hg] at hS
    have HS := Lib.hid hS
    clear hS hg
    go_enter Try.func27, Try.ntmps27
    go_wp2_with (go_at_call 29; refine HS.out.mono ?_; rintro e w2 ⟨A2, c2, rfl, _, hb⟩)
    go_ret2
    exact ⟨by rw [E.out]; rfl, hb⟩
  | true =>
    obtain ⟨n, L, rfl, rfl, hL, hlen⟩ := lvG_at hg
    have hcs : csV (n : Int) (L : Int) = (lvV (n : Int) (L : Int)).getD L 0 := by unfold csV; rw [hg]; rfl
    obtain ⟨V, hV⟩ : ∃ V, lvV (n : Int) (L : Int) = V := ⟨_, rfl⟩
    obtain ⟨z, hz⟩ : ∃ z, V.getD L 0 = z := ⟨_, rfl⟩
    rw [hV] at hS hlen hcs
    rw [hz] at hcs
    rw [hg, hlen] at hS
    have HS := Lib.hid hS
    have E := Lib.hid hcs
    have HL := Lib.hid hlen
    have HZ := Lib.hid hz
    have iL : (L : Int) < (L : Int) + 1 := by omega
    clear hS hg hcs hV hlen hz
    go_enter Try.func27, Try.ntmps27
    go_wp2_with (go_at_call 29; refine HS.out.mono ?_; rintro e w2 ⟨A2, c2, rfl, hown, hb⟩; obtain ⟨g, rfl, _, _, hc⟩ := own_cells hown HL.out (by omega); have hcl := hc L (by omega); rw [HZ.out] at hcl; clear hown hc)
    go_ret2
    exact ⟨by rw [E.out]; rfl, hb⟩

set_option maxRecDepth 100000 in
set_option maxHeartbeats 1000000 in
theorem implCount_any (x y : Int) (w : World) : Calls Try.prog 28 #[.int .i64 x, .int .i64 y] w fun e w' => e = .returned (.tuple #[.int .i64 (csV x y), .bool (lvG x y)]) ∧ Below w.heap.size w w' := by
  have hS := implLive_any x y w
  cases hg : lvG x y with
  | false =>
    have E := Lib.hid (csV_no hg)
    rw [hg] at hS
    have HS := Lib.hid hS
    clear hS hg
    go_enter Try.func28, Try.ntmps28
    go_wp2_with (go_at_call 30; refine HS.out.mono ?_; rintro e w2 ⟨A2, c2, rfl, _, hb⟩)
    go_ret2
    exact ⟨by rw [E.out]; rfl, hb⟩
  | true =>
    obtain ⟨n, L, rfl, rfl, hL, hlen⟩ := lvG_at hg
    have hcs : csV (n : Int) (L : Int) = (lvV (n : Int) (L : Int)).getD L 0 := by unfold csV; rw [hg]; rfl
    obtain ⟨V, hV⟩ : ∃ V, lvV (n : Int) (L : Int) = V := ⟨_, rfl⟩
    obtain ⟨z, hz⟩ : ∃ z, V.getD L 0 = z := ⟨_, rfl⟩
    rw [hV] at hS hlen hcs
    rw [hz] at hcs
    rw [hg, hlen] at hS
    have HS := Lib.hid hS
    have E := Lib.hid hcs
    have HL := Lib.hid hlen
    have HZ := Lib.hid hz
    have iL : (L : Int) < (L : Int) + 1 := by omega
    clear hS hg hcs hV hlen hz
    go_enter Try.func28, Try.ntmps28
    go_wp2_with (go_at_call 30; refine HS.out.mono ?_; rintro e w2 ⟨A2, c2, rfl, hown, hb⟩; obtain ⟨g, rfl, _, _, hc⟩ := own_cells hown HL.out (by omega); have hcl := hc L (by omega); rw [HZ.out] at hcl; clear hown hc)
    go_ret2
    exact ⟨by rw [E.out]; rfl, hb⟩
end Go.Proofs.Ytppahohakiidmaa
