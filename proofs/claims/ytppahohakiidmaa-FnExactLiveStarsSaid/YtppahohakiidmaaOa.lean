/- Lists of lists that the laws compare, mark and look at again. -/
import Derived.Test.YtppahohakiidmaaMl
namespace Go.Proofs.Ytppahohakiidmaa
open Go.RowKit

def TT (f : Nat → Option Addr × Nat) (N k : Nat) : List Value := (List.range k).map fun i => Value.slice (f i).1 N (f i).2
def upd (f : Nat → Option Addr × Nat) (k : Nat) (a : Option Addr × Nat) : Nat → Option Addr × Nat := fun i => if i = k then a else f i
def OwE (w : World) (B : Nat) (f : Nat → Option Addr × Nat) (N k : Nat) (r : Nat → List Int) : Prop := ∀ i, i < k → w.ownsRow B 3 1 (.slice (f i).1 N (f i).2) N ((r i).map I)
def Far (f : Nat → Option Addr × Nat) (N k : Nat) : Prop := ∀ i j, i < k → j < k → i ≠ j → (Value.slice (f i).1 N (f i).2).ownBlock = none ∨ (Value.slice (f i).1 N (f i).2).ownBlock ≠ (Value.slice (f j).1 N (f j).2).ownBlock
/-- A list of R lists of N numbers each, all of it own. -/
def OwL (w : World) (B : Nat) (A : Option Addr) (c : Nat) (f : Nat → Option Addr × Nat) (N R : Nat) (r : Nat → List Int) : Prop := w.ownsRow B 22 1 (.slice A R c) R (TT f N R) ∧ OwE w B f N R r
theorem TT_length (f : Nat → Option Addr × Nat) (N k : Nat) : (TT f N k).length = k := by simp [TT]
theorem TT_at (f : Nat → Option Addr × Nat) (N : Nat) {k i : Nat} (hi : i < k) : (TT f N k)[i]? = some (Value.slice (f i).1 N (f i).2) := by simp [TT, hi]
theorem TT_upd (f : Nat → Option Addr × Nat) (N k : Nat) (A : Option Addr) (c : Nat) : TT (upd f k (A, c)) N (k + 1) = TT f N k ++ [Value.slice A N c] := by
  unfold TT
  rw [List.range_succ, List.map_append]
  congr 1
  · apply List.map_congr_left
    intro i hi
    have : i ≠ k := by have := List.mem_range.1 hi; omega
    simp [upd, this]
  · simp [upd]
section
variable {w w' : World} {B B' : Nat} {A : Option Addr} {c N R k : Nat} {f : Nat → Option Addr × Nat} {r : Nat → List Int}
theorem OwE.below (h : OwE w B f N k r) (hb : Below w.heap.size w w') : OwE w' B f N k r := fun i hi => own_below (h i hi) hb
theorem OwE.base (h : OwE w B f N k r) (hB : B' ≤ B) : OwE w B' f N k r := fun i hi => own_base (h i hi) hB
theorem OwL.below (h : OwL w B A c f N R r) (hb : Below w.heap.size w w') : OwL w' B A c f N R r := ⟨own_below h.1 hb, h.2.below hb⟩
theorem OwL.base (h : OwL w B A c f N R r) (hB : B' ≤ B) : OwL w B' A c f N R r := ⟨own_base h.1 hB, h.2.base hB⟩
theorem OwL.drewN (h : OwL w B A c f N R r) (n : Nat) : OwL (w.drewN n) B A c f N R r := h
theorem OwL.win {lo hi : Nat} (hw : Win lo hi w w') (h : OwL w B A c f N R r) (hB : hi ≤ B) : OwL w' B A c f N R r := ⟨hw.own h.1 hB, fun i hi => hw.own (h.2 i hi) hB⟩
/-- Row i: its slice value's cell, and its numbers. -/
theorem OwL.at_ (h : OwL w B A c f N R r) {i : Nat} (hi : i < R) : ∃ g, A = some ⟨g, 0, none⟩ ∧ B ≤ g ∧ g < w.heap.size ∧ w.cell? ⟨g, i, none⟩ = some (Value.slice (f i).1 N (f i).2) ∧ Rd w w.heap.size 1 (f i).1 N ((r i).map I) ∧ (r i).length = N := by
  obtain ⟨g, rfl, hB, hg, hc, _⟩ := own_at h.1 (by omega)
  have h2 := h.2 i hi
  exact ⟨g, rfl, hB, hg, by rw [hc i (by omega), TT_at f N hi], Rd.of_own h2, by have := h2.1; simpa using this⟩
end

set_option maxRecDepth 100000 in
set_option maxHeartbeats 1000000 in
theorem eqIntSS_any (B B' : Nat) (A A' : Option Addr) (c c' N R : Nat) (f f' : Nat → Option Addr × Nat) (r : Nat → List Int) (w : World) (hN : N ≤ 1000) (hR : R ≤ 1000) (h : OwL w B A c f N R r) (h' : OwL w B' A' c' f' N R r) :
    Calls Try.prog 33 #[.slice A R c, .slice A' R c'] w fun e w' => e = .returned (.bool true) ∧ Dr w w' := by
  have H := Lib.hid h
  have H' := Lib.hid h'
  clear h h'
  go_enter Try.func33, Try.ntmps33
  go_wp2
  go_loopw [5] (fun i wr => ∃ k n : Nat, k ≤ R ∧ i = .int .i64 k ∧ wr = w.drewN n) (fun i _ => R - (intOf i).toNat)
  case atStart => exact ⟨0, 0, by omega, rfl, rfl⟩
  case round =>
    obtain ⟨k, n, hk, rfl, rfl⟩ := hrel
    by_cases hlt : k < R
    · obtain ⟨g, rfl, _, _, hc, hrd, hrl⟩ := H.out.at_ hlt
      obtain ⟨g', rfl, _, _, hc', hrd', _⟩ := H'.out.at_ hlt
      have hE := fun W hr1 hr2 => eqIntS_any w.heap.size w.heap.size (f k).1 (f' k).1 (f k).2 (f' k).2 (r k) (r k) W (by omega) (by omega) hr1 hr2
      rw [eqI_refl, hrl] at hE
      have HE := Lib.hid hE
      have HRD := Lib.hid hrd
      have HRD' := Lib.hid hrd'
      have ikR : (k : Int) < (R : Int) := by omega
      clear hE hrd hrd' hrl
      obtain ⟨a1, ha1⟩ : ∃ a, (f k).1 = a := ⟨_, rfl⟩
      obtain ⟨a2, ha2⟩ : ∃ a, (f k).2 = a := ⟨_, rfl⟩
      obtain ⟨b1, hb1⟩ : ∃ a, (f' k).1 = a := ⟨_, rfl⟩
      obtain ⟨b2, hb2⟩ : ∃ a, (f' k).2 = a := ⟨_, rfl⟩
      have he := HE.out
      have hr1 := HRD.out
      have hr2 := HRD'.out
      rw [ha1, ha2, hb1, hb2] at he
      rw [ha1] at hr1
      rw [hb1] at hr2
      rw [ha1, ha2] at hc
      rw [hb1, hb2] at hc'
      have HE2 := Lib.hid he
      have HR1 := Lib.hid hr1
      have HR2 := Lib.hid hr2
      clear he hr1 hr2 ha1 ha2 hb1 hb2 HE HRD HRD'
      go_wp2
      refine wp_region_Tw [0, 1, 2, 3, 4, 5, 6, 7, 9] [3, 7] (.lp 0 (.lp 1 (.lp 2 (.lp 4 (.lp 5 (.lp 6 (.ls 3 (.ls 7 (.hv 8 (.lp 9 (.done))))))))))) (by kernel_rfl) (by kernel_rfl) ?_
      (repeat (first | (refine T_lp rfl (fun K hK => ?_); go_simp; refine hK _ ?_; clear hK K) | (refine T_ls rfl rfl (fun K hK => ?_); go_simp; refine hK _ ?_; clear hK K)))
      (refine T_hv rfl (by kernel_rfl) (fun K hK => ?_); go_simp)
      go_at_call 18
      refine (HE2.out (w.drewN (n + 1)) (HR1.out.drewN _) (HR2.out.drewN _)).mono ?_
      rintro e w5 ⟨rfl, ⟨nd, rfl⟩⟩
      (go_simp; refine hK _ _ ?_; clear hK K)
      (repeat (first | (refine T_lp rfl (fun K hK => ?_); go_simp; refine hK _ ?_; clear hK K) | (refine T_ls rfl rfl (fun K hK => ?_); go_simp; refine hK _ ?_; clear hK K)))
      refine T_done ?_
      go_wp2
      go_roundw
      case rel => exact ⟨k + 1, _, by omega, by go_num, rfl⟩
      case measure => simp [intOf]; omega
    · go_wp2
      go_ret
      exact ⟨rfl, Dr.mk _ _⟩

def mkR (m : Int) (N k : Nat) (r : Nat → List Int) : Nat → List Int := fun i => if i < k then marksI (m + (i : Int) * (N : Int)) N else r i
set_option maxRecDepth 100000 in
set_option maxHeartbeats 1000000 in
theorem markIntSS_any (B : Nat) (A : Option Addr) (c N R : Nat) (f : Nat → Option Addr × Nat) (r : Nat → List Int) (m : Int) (w : World) (hN : N ≤ 1000) (hR : R ≤ 1000) (hm0 : 0 ≤ m) (hm1 : m ≤ 10) (hB : B ≤ w.heap.size) (hf : Far f N R) (h : OwL w B A c f N R r) :
    Calls Try.prog 34 #[.slice A R c, .int .i64 m] w fun e w' => e = .returned (.int .i64 (m + (R : Int) * (N : Int))) ∧ OwL w' B A c f N R (mkR m N R r) ∧ Below B w w' := by
  have H := Lib.hid h
  have HF := Lib.hid hf
  clear h hf
  have hbd : ∀ k : Nat, k ≤ R → (0 : Int) ≤ (k : Int) * (N : Int) ∧ (k : Int) * (N : Int) ≤ 1000000 := fun k hk => by
    have h1 : k * N ≤ 1000 * 1000 := Nat.mul_le_mul (by omega) hN
    have h2 : ((k * N : Nat) : Int) = (k : Int) * (N : Int) := by push_cast; rfl
    rw [← h2]
    omega
  have HBD := Lib.hid hbd
  clear hbd
  go_enter Try.func34, Try.ntmps34
  go_wp2
  go_loopw [1, 5] (fun kv i wr => ∃ (k : Nat) (x : Int), k ≤ R ∧ i = .int .i64 k ∧ kv = .int .i64 x ∧ x = m + (k : Int) * (N : Int) ∧ OwL wr B A c f N R (mkR m N k r) ∧ Below B w wr) (fun _ i _ => R - (intOf i).toNat)
  case atStart => exact ⟨0, m, by omega, rfl, rfl, by simp, H.out, Below.refl _ _⟩
  case round =>
    obtain ⟨k, x, hk, rfl, rfl, hx, hown, hbel⟩ := hrel
    have hb := HBD.out k hk
    by_cases hlt : k < R
    · obtain ⟨g, rfl, hgB, hgs, hc, _, hrl⟩ := hown.at_ hlt
      have hrow := hown.2 k hlt
      have hmk := markIntS_any B (f k).1 (f k).2 (mkR m N k r k) x wr (by omega) (by omega) (by omega) (by
        show World.ownsRow _ _ _ _ _ _ _
        rw [hrl]
        exact hrow)
      rw [hrl] at hmk
      obtain ⟨a1, ha1⟩ : ∃ a, (f k).1 = a := ⟨_, rfl⟩
      obtain ⟨a2, ha2⟩ : ∃ a, (f k).2 = a := ⟨_, rfl⟩
      rw [ha1, ha2] at hmk hc
      have HMK := Lib.hid hmk
      have OWN := Lib.hid hown
      have BEL := Lib.hid hbel
      have HXX := Lib.hid hx
      have HA1 := Lib.hid ha1
      have HA2 := Lib.hid ha2
      have ikR : (k : Int) < (R : Int) := by omega
      clear hmk hown hbel hrow hrl hx ha1 ha2
      go_wp2_with fail
      go_at_call 23
      refine HMK.out.mono ?_
      rintro e w5 ⟨rfl, ho5, hg5⟩
      have HO5 := Lib.hid ho5
      have HG5 := Lib.hid hg5
      clear ho5 hg5
      go_wp2
      go_roundw
      case rel =>
        have hown := OWN.out
        have hrow := hown.2 k hlt
        refine ⟨k + 1, _, by omega, by go_num, rfl, by rw [HXX.out]; push_cast; rw [Int.add_mul]; omega, ⟨?_, ?_⟩, ?_⟩
        · exact World.ownsRow.kept hown.1 HG5.out (by rw [← HA1.out, ← HA2.out]; exact own_ne hown.1 hrow (by decide))
        · intro i hi
          by_cases hik : i = k
          · subst hik
            have e : mkR m N (i + 1) r i = marksI (m + (i : Int) * (N : Int)) N := by simp [mkR]
            rw [e, HA1.out, HA2.out]
            have h' : w5.ownsRow _ _ _ _ _ _ := HO5.out
            rw [marksI_length, HXX.out] at h'
            exact h'
          · have e : mkR m N (k + 1) r i = mkR m N k r i := by
              unfold mkR
              by_cases h1 : i < k
              · rw [if_pos h1, if_pos (by omega)]
              · rw [if_neg h1, if_neg (by omega)]
            rw [e]
            exact World.ownsRow.kept (hown.2 i hi) HG5.out (by rw [← HA1.out, ← HA2.out]; exact HF.out i k hi hlt hik)
        · exact BEL.out.trans (Below.grown (Below.refl _ _) HG5.out (by have := BEL.out.size; omega) (fun q hq => by rw [← HA1.out, ← HA2.out] at hq; exact (own_block hrow q hq).1))
      case measure => simp [intOf]; omega
    · have hk' : k = R := by omega
      subst hk'
      have hx' := hx
      subst hx'
      go_wp2
      go_ret
      exact ⟨rfl, hown, hbel⟩

set_option maxRecDepth 100000 in
set_option maxHeartbeats 1000000 in
theorem heldIntSS_any (B : Nat) (A : Option Addr) (c N R : Nat) (f : Nat → Option Addr × Nat) (r : Nat → List Int) (m : Int) (w : World) (hN : N ≤ 1000) (hR : R ≤ 1000) (hm0 : 0 ≤ m) (hm1 : m ≤ 10) (h : OwL w B A c f N R (mkR m N R r)) :
    Calls Try.prog 35 #[.slice A R c, .int .i64 m] w fun e w' => e = .returned (.int .i64 (m + (R : Int) * (N : Int))) ∧ w = w' := by
  have H := Lib.hid h
  clear h
  have hbd : ∀ k : Nat, k ≤ R → (0 : Int) ≤ (k : Int) * (N : Int) ∧ (k : Int) * (N : Int) ≤ 1000000 := fun k hk => by
    have h1 : k * N ≤ 1000 * 1000 := Nat.mul_le_mul (by omega) hN
    have h2 : ((k * N : Nat) : Int) = (k : Int) * (N : Int) := by push_cast; rfl
    rw [← h2]
    omega
  have HBD := Lib.hid hbd
  clear hbd
  go_enter Try.func35, Try.ntmps35
  go_wp2
  go_loopw [1, 5] (fun kv i wr => ∃ (k : Nat) (x : Int), k ≤ R ∧ i = .int .i64 k ∧ kv = .int .i64 x ∧ x = m + (k : Int) * (N : Int) ∧ w = wr) (fun _ i _ => R - (intOf i).toNat)
  case atStart => exact ⟨0, m, by omega, rfl, rfl, by simp, rfl⟩
  case round =>
    obtain ⟨k, x, hk, rfl, rfl, hx, rfl⟩ := hrel
    have hb := HBD.out k hk
    by_cases hlt : k < R
    · obtain ⟨g, rfl, hgB, hgs, hc, hrd, hrl⟩ := H.out.at_ hlt
      have e : mkR m N R r k = marksI x N := by simp [mkR, hlt, hx]
      rw [e] at hrd
      have hh := heldIntS_any w.heap.size (f k).1 (f k).2 N x w (by omega) (by omega) (by omega) hrd
      obtain ⟨a1, ha1⟩ : ∃ a, (f k).1 = a := ⟨_, rfl⟩
      obtain ⟨a2, ha2⟩ : ∃ a, (f k).2 = a := ⟨_, rfl⟩
      rw [ha1, ha2] at hh hc
      have HH := Lib.hid hh
      have HXX := Lib.hid hx
      have ikR : (k : Int) < (R : Int) := by omega
      have hneg : ¬ (x + (N : Int) < 0) := by omega
      clear hh hrd hrl e ha1 ha2 hx
      go_wp2_with fail
      go_at_call 24
      refine HH.out.mono ?_
      rintro e w5 ⟨rfl, rfl⟩
      go_wp2
      go_roundw
      case rel => exact ⟨k + 1, _, by omega, by go_num, rfl, by rw [HXX.out]; push_cast; rw [Int.add_mul]; omega, trivial⟩
      case measure => simp [intOf]; omega
    · have hk' : k = R := by omega
      subst hk'
      have hx' := hx
      subst hx'
      go_wp2
      go_ret
      exact ⟨rfl, rfl⟩
end Go.Proofs.Ytppahohakiidmaa
