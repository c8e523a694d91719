/- Windows that slide over the binary digits of a number, by the program. -/
import Derived.Test.YtodjnafalbbmjaaDoorSl
import Derived.Shelf.Spec.TrailingZeros
namespace Go.Proofs.YtodjnafalbbmjaaDoor
open Go.RowKit

abbrev TzT (w : World) : Prop := TabAt 1 Lib.deBruijn64tab w
theorem TzT.on {w w' : World} (h : TzT w) (hb : Below w.heap.size w w') : TzT w' := fun j hj => by
  have h1 := h j hj
  exact (hb.cell (World.block_lt_of_cell? w _ h1)).trans h1
set_option maxRecDepth 100000 in
set_option maxHeartbeats 1000000 in
theorem tz64_any (x : Nat) (w : World) (h0 : x ≠ 0) (hx : x < 18446744073709551616) (hT : TzT w) :
    Calls Tryd.prog 23 #[.int .u64 x] w fun e w' => e = .returned (.int .i64 (Lib.ctz 64 x)) ∧ w = w' := by
  obtain ⟨hlow, hk⟩ := Lib.lowest_bit 64 x h0 hx
  obtain ⟨hi, htab⟩ := Lib.deBruijn64_at _ hk
  have hcell := hT _ hi
  rw [htab] at hcell
  have key := tz64_key x _ hx h0 hlow
  have hx0 : ((x : Int) == 0) = false := by simp; omega
  obtain ⟨k, hkk⟩ : ∃ k, Lib.ctz 64 x = k := ⟨_, rfl⟩
  rw [hkk] at hk hi hcell key ⊢
  obtain ⟨idx, hidx⟩ : ∃ i, 2 ^ k * 285870213051353865 % 18446744073709551616 / 288230376151711744 = i := ⟨_, rfl⟩
  rw [hidx] at hi hcell key
  clear hidx hkk hlow htab h0 hT
  go_enter Tryd.func23, Tryd.ntmps23
  go_wp2_with (simp only [key])
  go_ret
  exact ⟨rfl, rfl⟩
set_option maxRecDepth 100000 in
set_option maxHeartbeats 1000000 in
theorem tz_any (x : Nat) (w : World) (h0 : x ≠ 0) (hx : x < 18446744073709551616) (hT : TzT w) :
    Calls Tryd.prog 19 #[.int .u64 x] w fun e w' => e = .returned (.int .i64 (Lib.ctz 64 x)) ∧ w = w' := by
  have HZ := Lib.hid (tz64_any x w h0 hx hT)
  clear hT h0
  go_enter Tryd.func19, Tryd.ntmps19
  go_wp2_with (go_at_call 23; refine HZ.out.mono ?_; rintro e w' ⟨rfl, rfl⟩)
  go_ret
  exact ⟨rfl, rfl⟩

theorem info_windowS : (Tryd.prog.info? 34).map (fun i => (i.zero, i.size, i.bytes)) = some (some (.agg #[I 0, I 0]), 2, 16) := by kernel_rfl
/-- An own slice of windows. -/
def OwV (w : World) (B : Nat) (v : Value) (l : List (Int × Int)) : Prop := w.ownsRow B 34 2 v l.length (fl l)
def slW (k n j : Nat) : List (Int × Int) := (slI k n j).2.map fun x => (((x.1 : Nat) : Int), ((x.2 : Nat) : Int))
theorem slW_len (k n j : Nat) : (slW k n j).length = j := by unfold slW; rw [List.length_map, slI_len]
theorem slW_succ (k n j : Nat) : slW k n (j + 1) = slW k n j ++ [(((lowS k (slI k n j).1 : Nat) : Int), (((slI k n j).1 / 2 ^ lowS k (slI k n j).1 : Nat) : Int))] := by
  unfold slW
  show ((slI k n j).2 ++ [_]).map _ = _
  rw [List.map_append]
  rfl

theorem wrap64_small {n : Nat} (h : n ≤ 1000000) : wrap64 (n : Int) = (n : Int) := by unfold wrap64; omega

set_option maxRecDepth 100000 in
set_option maxHeartbeats 4000000 in
theorem sliding_any (k n : Nat) (w : World) (hk : 1 ≤ k) (hk5 : k ≤ 5) (hn : n ≤ 1000000) (hT : TzT w) :
    Calls Tryd.prog 14 #[.int .i64 (n : Int), .int .i64 (k : Int)] w fun e w' => ∃ A c J, e = .returned (.slice A J c) ∧ SlEnd k n J ∧ OwV w' w.heap.size (.slice A J c) (slW k n J) ∧ Below w.heap.size w w' := by
  have HT := Lib.hid hT
  clear hT
  go_enter Tryd.func14, Tryd.ntmps14
  go_wp2
  go_loopw [0, 5] (fun nv sv wr => ∃ (j : Nat) (A1 : Option Addr) (c1 : Nat), nv = .int .i64 (((slI k n j).1 : Nat) : Int) ∧ sv = .slice A1 j c1 ∧ (∀ t, t < j → (slI k n t).1 ≠ 0) ∧ wr.ownsRow w.heap.size 34 2 (.slice A1 j c1) j (fl (slW k n j)) ∧ Below w.heap.size w wr) (fun nv _ _ => (intOf nv).toNat)
  case atStart => exact ⟨0, none, 0, rfl, rfl, fun t h => absurd h (by omega), World.ownsRow_nil _ _ _ _, Below.refl _ _⟩
  case round =>
    obtain ⟨j, A1, c1, rfl, rfl, hall, hown, hbel⟩ := hrel
    have OWN := Lib.hid hown
    have BEL := Lib.hid hbel
    have ALL := Lib.hid hall
    have hs : w.heap.size ≤ wr.heap.size := hbel.size
    have hle := Nat.le_trans (slI_le (j := j) hk hn) hn
    have HJ := Lib.hid (fun h => slI_20 (j := j) hk hn h)
    have hws := slW_succ k n j
    have hst := slI_succ k n j
    obtain ⟨m, hm⟩ : ∃ m, (slI k n j).1 = m := ⟨_, rfl⟩
    rw [hm] at hle hws hst ⊢
    have HM := Lib.hid hm
    clear hown hbel hall hm
    by_cases hpos : 0 < m
    · obtain ⟨L, l0, q, z, low, v, u, m', hL, hb20, hl0, hq, hq0, hqm, hz, hlow, hlo, hlt, hv, hu, hdm, hm', hv1, hvm, hmm⟩ := sl_one hk hpos hle
      have hj20 := HJ.out (by rw [HM.out]; exact Nat.pos_iff_ne_zero.1 hpos)
      have HB := Lib.hid (fun W => bitsLen_any (m : Int) W (Int.natCast_nonneg _) (Int.le_trans (Int.ofNat_le.2 hle) (by decide)))
      rw [Int.toNat_natCast, hL] at HB
      have HTZ := Lib.hid (tz_any q wr hq0 (Nat.lt_of_le_of_lt (Nat.le_trans hqm hle) (by decide)) (HT.out.on BEL.out))
      rw [hz] at HTZ
      rw [hlow, hv] at hws
      rw [hlow, hm'] at hst
      have e1 : (m : Int) / 2 ^ l0 = (q : Int) := by rw [← hq]; push_cast; rfl
      have e2 : (m : Int) / 2 ^ low = (v : Int) := by rw [← hv]; push_cast; rfl
      have e3 : (v : Int) * 2 ^ low = (u : Int) := by
        rw [← hu, Nat.mul_comm]
        push_cast
        rfl
      have HWS := Lib.hid hws
      have HST := Lib.hid hst
      clear hws hst hL hq hz hlow hv hm' hu
      have e4 : wrap64 (u : Int) = (u : Int) := wrap64_small (Nat.le_trans (Nat.le.intro hdm) hle)
      have e5 : (m : Int) - (u : Int) = (m' : Int) := by clear e1 e2 e3; omega
      have hmx : max ((L : Int) - (k : Int)) 0 = (l0 : Int) := by clear e1 e2 e3; omega
      have e7 : wrap64 (m' : Int) = (m' : Int) := wrap64_small (Nat.le_of_lt (Nat.lt_of_lt_of_le hmm hle))
      have E7 := Lib.hid e7
      clear e7
      have e6 : (l0 : Int) + (z : Int) = (low : Int) := by clear e1 e2 e3; omega
      clear hl0 hlo hdm
      have w1 : IntKind.u64.wrap (m : Int) = (m : Int) := by clear e1 e2 e3; rw [IntKind.wrap_u64]; omega
      have w2 : IntKind.u64.wrap (q : Int) = (q : Int) := by clear e1 e2 e3; rw [IntKind.wrap_u64]; omega
      have E1 := Lib.hid e1
      have E2 := Lib.hid e2
      have E3 := Lib.hid e3
      clear e1 e2 e3
      have ip : (0 : Int) < (m : Int) := by omega
      go_wp2_with fail
      refine (HB.out _).mono ?_
      rintro e w' ⟨rfl, hww⟩
      subst w'
      go_wp2_with fail
      rw [E1.out, w2]
      refine HTZ.out.mono ?_
      rintro e w' ⟨rfl, hww⟩
      subst w'
      go_wp2_with (at_builtin; rw [E2.out]; refine list_step (fun K hK => ?_); refine step_app2 Tryd.underlying31 info_windowS rfl (by omega) rfl (.tmp 28) (.tmp 30) rfl w.heap.size j _ (fl (slW k n j)) rfl ((World.ownsRow.alloc (World.ownsRow.alloc OWN.out _) _)) (wr.heap.size + 1) 1 (I (low : Int)) (I (v : Int)) rfl (by simp) (by simp) rfl rfl (by omega) (by simp; omega) ?_; intro A3 c3 w3 hown3 hg3 hbel3; have hO3 := Lib.hid hown3; have hblk : w3.heap[wr.heap.size]? = some (.cells #[.int .i64 (low : Int), .int .i64 (v : Int)] 34 (0, 0)) := (hg3.block wr.heap.size (by rw [World.size_alloc, World.size_alloc]; exact Nat.lt_succ_of_lt (Nat.lt_succ_self _)) (fun e => by have := own_block OWN.out wr.heap.size e.symm; omega)).trans (by rw [Below.heap_alloc _ _ _ (by simp)]; exact heap_alloc_new wr _); have q0 := (cell_of_row w3 wr.heap.size 0 _ _ _ hblk).trans (show _ = some (Value.int .i64 (low : Int)) from rfl); have q1 := (cell_of_row w3 wr.heap.size 1 _ _ _ hblk).trans (show _ = some (Value.int .i64 (v : Int)) from rfl); have HB3 := Lib.hid (((BEL.out.alloc hs _).alloc (by simp; omega) _).trans hbel3); clear hown3 hg3 hbel3 hblk; go_simp; refine hK _ _ ?_; clear hK K)
      rw [E3.out, e4, e5, E7.out]
      have hmm' := hmm
      go_roundw
      case rel =>
        refine ⟨j + 1, A3, c3, by rw [HST.out], rfl, fun t ht => ?_, ?_, HB3.out⟩
        · rcases Nat.lt_or_eq_of_le (Nat.lt_succ_iff.1 ht) with h | h
          · exact ALL.out t h
          · rw [h, HM.out]
            exact Nat.pos_iff_ne_zero.1 hpos
        · rw [HWS.out, fl_snoc]
          exact hO3.out
      case measure => simp [intOf]; omega
    · have h0 : m = 0 := by omega
      subst h0
      have HE := Lib.hid (show SlEnd k n j from ⟨HM.out, ALL.out⟩)
      have hl := slW_len k n j
      have HL := Lib.hid hl
      clear hpos hws hst hl HJ
      go_wp2
      go_ret
      exact ⟨A1, c1, j, rfl, HE.out, by unfold OwV; rw [HL.out]; exact OWN.out, BEL.out⟩
end Go.Proofs.YtodjnafalbbmjaaDoor
