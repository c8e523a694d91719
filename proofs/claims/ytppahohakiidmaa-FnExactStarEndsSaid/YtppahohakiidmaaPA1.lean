/- Joined: Oa Qm Qa Qb Qc Qd Qe Qf Qg Bl Qj Qn Hi Hj Hb Hk Hl Hm Qz He Hn Hp Hq Qq. -/
import Derived.Test.YtppahohakiidmaaPA0
import Derived.Shelf.Small.Bits
import Derived.Lib.BitFns
import Derived.Laws.BitsLemmas
import Derived.Laws.Bits64b
import Derived.Lib.AppendZeros
import Derived.Lib.AppendZerosOnto
import Derived.Lib.Overlaps
import Derived.Lib.SliceRun
import Derived.Laws.Externs
import Derived.Laws.IdiomCopy
/- Lists of lists that the laws compare, mark and look at again. -/
namespace Go.Proofs.Ytppahohakiidmaa
open Go.RowKit

def TT (f : Nat → Option Addr × Nat) (N k : Nat) : List Value := (List.range k).map fun i => Value.slice (f i).1 N (f i).2
def upd (f : Nat → Option Addr × Nat) (k : Nat) (a : Option Addr × Nat) : Nat → Option Addr × Nat := fun i => if i = k then a else f i
def OwE (w : World) (B : Nat) (f : Nat → Option Addr × Nat) (N k : Nat) (r : Nat → List Int) : Prop := ∀ i, i < k → w.ownsRow B 3 1 (.slice (f i).1 N (f i).2) N ((r i).map I)
def Far (f : Nat → Option Addr × Nat) (N k : Nat) : Prop := ∀ i j, i < k → j < k → i ≠ j → (Value.slice (f i).1 N (f i).2).ownBlock = none ∨ (Value.slice (f i).1 N (f i).2).ownBlock ≠ (Value.slice (f j).1 N (f j).2).ownBlock
/-- A list of R lists of N numbers each, all of it own. -/
def OwL (w : World) (B : Nat) (A : Option Addr) (c : Nat) (f : Nat → Option Addr × Nat) (N R : Nat) (r : Nat → List Int) : Prop := w.ownsRow B 22 1 (.slice A R c) R (TT f N R) ∧ OwE w B f N R r
theorem TT_length (f : Nat → Option Addr × Nat) (N k : Nat) : (TT f N k).length = k := by simp [TT]
theorem TT_at (f : Nat → Option Addr × Nat) (N : Nat) {k i : Nat} (hi : i < k) : (TT f N k)[i]? = some (Value.slice (f i).1 N (f i).2) := by simp [TT, hi]
theorem TT_upd (f : Nat → Option Addr × Nat) (N k : Nat) (A : Option Addr) (c : Nat) : TT (upd f k (A, c)) N (k + 1) = TT f N k ++ [Value.slice A N c] := by
  unfold TT
  rw [List.range_succ, List.map_append]
  congr 1
  · apply List.map_congr_left
    intro i hi
    have : i ≠ k := by have := List.mem_range.1 hi; omega
    simp [upd, this]
  · simp [upd]
section
variable {w w' : World} {B B' : Nat} {A : Option Addr} {c N R k : Nat} {f : Nat → Option Addr × Nat} {r : Nat → List Int}
theorem OwE.below (h : OwE w B f N k r) (hb : Below w.heap.size w w') : OwE w' B f N k r := fun i hi => own_below (h i hi) hb
theorem OwE.base (h : OwE w B f N k r) (hB : B' ≤ B) : OwE w B' f N k r := fun i hi => own_base (h i hi) hB
theorem OwL.below (h : OwL w B A c f N R r) (hb : Below w.heap.size w w') : OwL w' B A c f N R r := ⟨own_below h.1 hb, h.2.below hb⟩
theorem OwL.base (h : OwL w B A c f N R r) (hB : B' ≤ B) : OwL w B' A c f N R r := ⟨own_base h.1 hB, h.2.base hB⟩
theorem OwL.drewN (h : OwL w B A c f N R r) (n : Nat) : OwL (w.drewN n) B A c f N R r := h
theorem OwL.win {lo hi : Nat} (hw : Win lo hi w w') (h : OwL w B A c f N R r) (hB : hi ≤ B) : OwL w' B A c f N R r := ⟨hw.own h.1 hB, fun i hi => hw.own (h.2 i hi) hB⟩
/-- Row i: its slice value's cell, and its numbers. -/
theorem OwL.at_ (h : OwL w B A c f N R r) {i : Nat} (hi : i < R) : ∃ g, A = some ⟨g, 0, none⟩ ∧ B ≤ g ∧ g < w.heap.size ∧ w.cell? ⟨g, i, none⟩ = some (Value.slice (f i).1 N (f i).2) ∧ Rd w w.heap.size 1 (f i).1 N ((r i).map I) ∧ (r i).length = N := by
  obtain ⟨g, rfl, hB, hg, hc, _⟩ := own_at h.1 (by omega)
  have h2 := h.2 i hi
  exact ⟨g, rfl, hB, hg, by rw [hc i (by omega), TT_at f N hi], Rd.of_own h2, by have := h2.1; simpa using this⟩
end

set_option maxRecDepth 100000 in
set_option maxHeartbeats 1000000 in
theorem eqIntSS_any (B B' : Nat) (A A' : Option Addr) (c c' N R : Nat) (f f' : Nat → Option Addr × Nat) (r : Nat → List Int) (w : World) (hN : N ≤ 1000) (hR : R ≤ 1000) (h : OwL w B A c f N R r) (h' : OwL w B' A' c' f' N R r) :
    Calls Try.prog 33 #[.slice A R c, .slice A' R c'] w fun e w' => e = .returned (.bool true) ∧ Dr w w' := by
  have H := Lib.hid h
  have H' := Lib.hid h'
  clear h h'
  go_enter Try.func33, Try.ntmps33
  go_wp2
  go_loopw [5] (fun i wr => ∃ k n : Nat, k ≤ R ∧ i = .int .i64 k ∧ wr = w.drewN n) (fun i _ => R - (intOf i).toNat)
  case atStart => exact ⟨0, 0, by omega, rfl, rfl⟩
  case round =>
    obtain ⟨k, n, hk, rfl, rfl⟩ := hrel
    by_cases hlt : k < R
    · obtain ⟨g, rfl, _, _, hc, hrd, hrl⟩ := H.out.at_ hlt
      obtain ⟨g', rfl, _, _, hc', hrd', _⟩ := H'.out.at_ hlt
      have hE := fun W hr1 hr2 => eqIntS_any w.heap.size w.heap.size (f k).1 (f' k).1 (f k).2 (f' k).2 (r k) (r k) W (by omega) (by omega) hr1 hr2
      rw [eqI_refl, hrl] at hE
      have HE := Lib.hid hE
      have HRD := Lib.hid hrd
      have HRD' := Lib.hid hrd'
      have ikR : (k : Int) < (R : Int) := by omega
      clear hE hrd hrd' hrl
      obtain ⟨a1, ha1⟩ : ∃ a, (f k).1 = a := ⟨_, rfl⟩
      obtain ⟨a2, ha2⟩ : ∃ a, (f k).2 = a := ⟨_, rfl⟩
      obtain ⟨b1, hb1⟩ : ∃ a, (f' k).1 = a := ⟨_, rfl⟩
      obtain ⟨b2, hb2⟩ : ∃ a, (f' k).2 = a := ⟨_, rfl⟩
      have he := HE.out
      have hr1 := HRD.out
      have hr2 := HRD'.out
      rw [ha1, ha2, hb1, hb2] at he
      rw [ha1] at hr1
      rw [hb1] at hr2
      rw [ha1, ha2] at hc
      rw [hb1, hb2] at hc'
      have HE2 := Lib.hid he
      have HR1 := Lib.hid hr1
      have HR2 := Lib.hid hr2
      clear he hr1 hr2 ha1 ha2 hb1 hb2 HE HRD HRD'
      go_wp2
      refine wp_region_Tw [0, 1, 2, 3, 4, 5, 6, 7, 9] [3, 7] (.lp 0 (.lp 1 (.lp 2 (.lp 4 (.lp 5 (.lp 6 (.ls 3 (.ls 7 (.hv 8 (.lp 9 (.done))))))))))) (by kernel_rfl) (by kernel_rfl) ?_
      (repeat (first | (refine T_lp rfl (fun K hK => ?_); go_simp; refine hK _ ?_; clear hK K) | (refine T_ls rfl rfl (fun K hK => ?_); go_simp; refine hK _ ?_; clear hK K)))
      (refine T_hv rfl (by kernel_rfl) (fun K hK => ?_); go_simp)
      go_at_call 18
      refine (HE2.out (w.drewN (n + 1)) (HR1.out.drewN _) (HR2.out.drewN _)).mono ?_
      rintro e w5 ⟨rfl, ⟨nd, rfl⟩⟩
      (go_simp; refine hK _ _ ?_; clear hK K)
      (repeat (first | (refine T_lp rfl (fun K hK => ?_); go_simp; refine hK _ ?_; clear hK K) | (refine T_ls rfl rfl (fun K hK => ?_); go_simp; refine hK _ ?_; clear hK K)))
      refine T_done ?_
      go_wp2
      go_roundw
      case rel => exact ⟨k + 1, _, by omega, by go_num, rfl⟩
      case measure => simp [intOf]; omega
    · go_wp2
      go_ret
      exact ⟨rfl, Dr.mk _ _⟩

def mkR (m : Int) (N k : Nat) (r : Nat → List Int) : Nat → List Int := fun i => if i < k then marksI (m + (i : Int) * (N : Int)) N else r i
set_option maxRecDepth 100000 in
set_option maxHeartbeats 1000000 in
theorem markIntSS_any (B : Nat) (A : Option Addr) (c N R : Nat) (f : Nat → Option Addr × Nat) (r : Nat → List Int) (m : Int) (w : World) (hN : N ≤ 1000) (hR : R ≤ 1000) (hm0 : 0 ≤ m) (hm1 : m ≤ 10) (hB : B ≤ w.heap.size) (hf : Far f N R) (h : OwL w B A c f N R r) :
    Calls Try.prog 34 #[.slice A R c, .int .i64 m] w fun e w' => e = .returned (.int .i64 (m + (R : Int) * (N : Int))) ∧ OwL w' B A c f N R (mkR m N R r) ∧ Below B w w' := by
  have H := Lib.hid h
  have HF := Lib.hid hf
  clear h hf
  have hbd : ∀ k : Nat, k ≤ R → (0 : Int) ≤ (k : Int) * (N : Int) ∧ (k : Int) * (N : Int) ≤ 1000000 := fun k hk => by
    have h1 : k * N ≤ 1000 * 1000 := Nat.mul_le_mul (by omega) hN
    have h2 : ((k * N : Nat) : Int) = (k : Int) * (N : Int) := by push_cast; rfl
    rw [← h2]
    omega
  have HBD := Lib.hid hbd
  clear hbd
  go_enter Try.func34, Try.ntmps34
  go_wp2
  go_loopw [1, 5] (fun kv i wr => ∃ (k : Nat) (x : Int), k ≤ R ∧ i = .int .i64 k ∧ kv = .int .i64 x ∧ x = m + (k : Int) * (N : Int) ∧ OwL wr B A c f N R (mkR m N k r) ∧ Below B w wr) (fun _ i _ => R - (intOf i).toNat)
  case atStart => exact ⟨0, m, by omega, rfl, rfl, by simp, H.out, Below.refl _ _⟩
  case round =>
    obtain ⟨k, x, hk, rfl, rfl, hx, hown, hbel⟩ := hrel
    have hb := HBD.out k hk
    by_cases hlt : k < R
    · obtain ⟨g, rfl, hgB, hgs, hc, _, hrl⟩ := hown.at_ hlt
      have hrow := hown.2 k hlt
      have hmk := markIntS_any B (f k).1 (f k).2 (mkR m N k r k) x wr (by omega) (by omega) (by omega) (by
        show World.ownsRow _ _ _ _ _ _ _
        rw [hrl]
        exact hrow)
      rw [hrl] at hmk
      obtain ⟨a1, ha1⟩ : ∃ a, (f k).1 = a := ⟨_, rfl⟩
      obtain ⟨a2, ha2⟩ : ∃ a, (f k).2 = a := ⟨_, rfl⟩
      rw [ha1, ha2] at hmk hc
      have HMK := Lib.hid hmk
      have OWN := Lib.hid hown
      have BEL := Lib.hid hbel
      have HXX := Lib.hid hx
      have HA1 := Lib.hid ha1
      have HA2 := Lib.hid ha2
      have ikR : (k : Int) < (R : Int) := by omega
      clear hmk hown hbel hrow hrl hx ha1 ha2
      go_wp2_with fail
      go_at_call 23
      refine HMK.out.mono ?_
      rintro e w5 ⟨rfl, ho5, hg5⟩
      have HO5 := Lib.hid ho5
      have HG5 := Lib.hid hg5
      clear ho5 hg5
      go_wp2
      go_roundw
      case rel =>
        have hown := OWN.out
        have hrow := hown.2 k hlt
        refine ⟨k + 1, _, by omega, by go_num, rfl, by rw [HXX.out]; push_cast; rw [Int.add_mul]; omega, ⟨?_, ?_⟩, ?_⟩
        · exact World.ownsRow.kept hown.1 HG5.out (by rw [← HA1.out, ← HA2.out]; exact own_ne hown.1 hrow (by decide))
        · intro i hi
          by_cases hik : i = k
          · subst hik
            have e : mkR m N (i + 1) r i = marksI (m + (i : Int) * (N : Int)) N := by simp [mkR]
            rw [e, HA1.out, HA2.out]
            have h' : w5.ownsRow _ _ _ _ _ _ := HO5.out
            rw [marksI_length, HXX.out] at h'
            exact h'
          · have e : mkR m N (k + 1) r i = mkR m N k r i := by
              unfold mkR
              by_cases h1 : i < k
              · rw [if_pos h1, if_pos (by omega)]
              · rw [if_neg h1, if_neg (by omega)]
            rw [e]
            exact World.ownsRow.kept (hown.2 i hi) HG5.out (by rw [← HA1.out, ← HA2.out]; exact HF.out i k hi hlt hik)
        · exact BEL.out.trans (Below.grown (Below.refl _ _) HG5.out (by have := BEL.out.size; omega) (fun q hq => by rw [← HA1.out, ← HA2.out] at hq; exact (own_block hrow q hq).1))
      case measure => simp [intOf]; omega
    · have hk' : k = R := by omega
      subst hk'
      have hx' := hx
      subst hx'
      go_wp2
      go_ret
      exact ⟨rfl, hown, hbel⟩

set_option maxRecDepth 100000 in
set_option maxHeartbeats 1000000 in
theorem heldIntSS_any (B : Nat) (A : Option Addr) (c N R : Nat) (f : Nat → Option Addr × Nat) (r : Nat → List Int) (m : Int) (w : World) (hN : N ≤ 1000) (hR : R ≤ 1000) (hm0 : 0 ≤ m) (hm1 : m ≤ 10) (h : OwL w B A c f N R (mkR m N R r)) :
    Calls Try.prog 35 #[.slice A R c, .int .i64 m] w fun e w' => e = .returned (.int .i64 (m + (R : Int) * (N : Int))) ∧ w = w' := by
  have H := Lib.hid h
  clear h
  have hbd : ∀ k : Nat, k ≤ R → (0 : Int) ≤ (k : Int) * (N : Int) ∧ (k : Int) * (N : Int) ≤ 1000000 := fun k hk => by
    have h1 : k * N ≤ 1000 * 1000 := Nat.mul_le_mul (by omega) hN
    have h2 : ((k * N : Nat) : Int) = (k : Int) * (N : Int) := by push_cast; rfl
    rw [← h2]
    omega
  have HBD := Lib.hid hbd
  clear hbd
  go_enter Try.func35, Try.ntmps35
  go_wp2
  go_loopw [1, 5] (fun kv i wr => ∃ (k : Nat) (x : Int), k ≤ R ∧ i = .int .i64 k ∧ kv = .int .i64 x ∧ x = m + (k : Int) * (N : Int) ∧ w = wr) (fun _ i _ => R - (intOf i).toNat)
  case atStart => exact ⟨0, m, by omega, rfl, rfl, by simp, rfl⟩
  case round =>
    obtain ⟨k, x, hk, rfl, rfl, hx, rfl⟩ := hrel
    have hb := HBD.out k hk
    by_cases hlt : k < R
    · obtain ⟨g, rfl, hgB, hgs, hc, hrd, hrl⟩ := H.out.at_ hlt
      have e : mkR m N R r k = marksI x N := by simp [mkR, hlt, hx]
      rw [e] at hrd
      have hh := heldIntS_any w.heap.size (f k).1 (f k).2 N x w (by omega) (by omega) (by omega) hrd
      obtain ⟨a1, ha1⟩ : ∃ a, (f k).1 = a := ⟨_, rfl⟩
      obtain ⟨a2, ha2⟩ : ∃ a, (f k).2 = a := ⟨_, rfl⟩
      rw [ha1, ha2] at hh hc
      have HH := Lib.hid hh
      have HXX := Lib.hid hx
      have ikR : (k : Int) < (R : Int) := by omega
      have hneg : ¬ (x + (N : Int) < 0) := by omega
      clear hh hrd hrl e ha1 ha2 hx
      go_wp2_with fail
      go_at_call 24
      refine HH.out.mono ?_
      rintro e w5 ⟨rfl, rfl⟩
      go_wp2
      go_roundw
      case rel => exact ⟨k + 1, _, by omega, by go_num, rfl, by rw [HXX.out]; push_cast; rw [Int.add_mul]; omega, trivial⟩
      case measure => simp [intOf]; omega
    · have hk' : k = R := by omega
      subst hk'
      have hx' := hx
      subst hx'
      go_wp2
      go_ret
      exact ⟨rfl, rfl⟩
end Go.Proofs.Ytppahohakiidmaa
/- Chains as data: strictly rising lists, the sums of a number, the steps of a chain. -/
namespace Go.Proofs.Ytppahohakiidmaa

/-- Strictly rising. -/
def Asc (l : List Int) : Prop := ∀ i j, i < j → j < l.length → l.getD i 0 < l.getD j 0
/-- What a sum of the number k with the greater index j is: index i. -/
def prsI (l : List Int) (k j n : Nat) : List (Int × Int) := ((List.range n).filter fun i : Nat => l.getD i 0 + l.getD j 0 == l.getD k 0).map fun i : Nat => ((i : Int), (j : Int))
def prsJ (l : List Int) (k j : Nat) : List (Int × Int) := prsI l k j (j + 1)
def prs (l : List Int) (k m : Nat) : List (Int × Int) := (List.range m).flatMap (prsJ l k)

theorem prsI_zero (l : List Int) (k j : Nat) : prsI l k j 0 = [] := rfl
theorem prsI_hit {l : List Int} {k j n : Nat} (h : l.getD n 0 + l.getD j 0 = l.getD k 0) : prsI l k j (n + 1) = prsI l k j n ++ [((n : Int), (j : Int))] := by
  unfold prsI
  have e : (l.getD n 0 + l.getD j 0 == l.getD k 0) = true := by simpa only [beq_iff_eq] using h
  rw [List.range_succ, List.filter_append, List.map_append]
  simp only [List.filter_cons, List.filter_nil, e]
  rfl
theorem prsI_miss {l : List Int} {k j n : Nat} (h : ¬ l.getD n 0 + l.getD j 0 = l.getD k 0) : prsI l k j (n + 1) = prsI l k j n := by
  unfold prsI
  have e : (l.getD n 0 + l.getD j 0 == l.getD k 0) = false := by simpa only [beq_eq_false_iff_ne] using h
  rw [List.range_succ, List.filter_append, List.map_append]
  simp only [List.filter_cons, List.filter_nil, e]
  simp
theorem prs_zero (l : List Int) (k : Nat) : prs l k 0 = [] := rfl
theorem prs_succ (l : List Int) (k m : Nat) : prs l k (m + 1) = prs l k m ++ prsJ l k m := by
  unfold prs
  rw [List.range_succ, List.flatMap_append]
  simp
theorem prsI_le (l : List Int) (k j n : Nat) : (prsI l k j n).length ≤ n := by
  unfold prsI
  rw [List.length_map]
  exact Nat.le_trans (List.length_filter_le _ _) (by simp)

theorem take_succ_getD {l : List Int} {k : Nat} (hk : k < l.length) : l.take (k + 1) = l.take k ++ [l.getD k 0] := by
  rw [List.take_succ_eq_append_getElem hk]
  simp [hk]
theorem mem_take_getD {l : List Int} {k : Nat} {x : Int} (hk : k ≤ l.length) : x ∈ l.take k ↔ ∃ i, i < k ∧ l.getD i 0 = x := by
  rw [List.mem_iff_getElem]
  constructor
  · rintro ⟨i, hi, rfl⟩
    have h1 : i < k := by rw [List.length_take] at hi; omega
    refine ⟨i, h1, ?_⟩
    rw [List.getElem_take]
    simp [show i < l.length by omega]
  · rintro ⟨i, hi, rfl⟩
    refine ⟨i, by rw [List.length_take]; omega, ?_⟩
    rw [List.getElem_take]
    simp [show i < l.length by omega]
/-- In a strictly rising list the index of x is the number of lesser numbers. -/
theorem count_at {l : List Int} {x : Int} : ∀ m, m ≤ l.length →
    (∀ i, i < m → l.getD i 0 < x) → (l.take m).countP (fun y => decide (y < x)) = m := by
  intro m
  induction m with
  | zero => intro _ _; rfl
  | succ m ih =>
    intro hm h
    rw [take_succ_getD (by omega), List.countP_append, ih (by omega) (fun i hi => h i (by omega))]
    have e2 : decide (l.getD m 0 < x) = true := by simpa only [decide_eq_true_eq] using h m (by omega)
    simp only [List.countP_cons, List.countP_nil, e2]
    simp
theorem find_eq {l : List Int} (ha : Asc l) (x : Int) : ∀ m, m ≤ l.length →
    ((List.range m).filter fun i => l.getD i 0 == x) = if x ∈ l.take m then [(l.take m).countP (fun y => decide (y < x))] else [] := by
  intro m
  induction m with
  | zero => intro _; simp
  | succ m ih =>
    intro hm
    rw [List.range_succ, List.filter_append, ih (by omega), take_succ_getD (by omega)]
    by_cases hx : l.getD m 0 = x
    · have hnot : ¬ x ∈ l.take m := by
        rw [mem_take_getD (by omega)]
        rintro ⟨i, hi, he⟩
        have := ha i m hi (by omega)
        omega
      have hc : (l.take m).countP (fun y => decide (y < x)) = m := count_at m (by omega) fun i hi => by have := ha i m hi (by omega); omega
      rw [if_neg hnot, List.countP_append, hc]
      rw [if_pos (by rw [hx]; simp)]
      have e1 : (l.getD m 0 == x) = true := by simpa using hx
      have e2 : decide (l.getD m 0 < x) = false := by simp only [decide_eq_false_iff_not]; omega
      simp only [List.filter_cons, List.filter_nil, e1, List.countP_cons, List.countP_nil, e2]
      simp
    · by_cases hin : x ∈ l.take m
      · rw [if_pos hin, if_pos (List.mem_append_left _ hin), List.countP_append]
        obtain ⟨i, hi, he⟩ := (mem_take_getD (by omega)).1 hin
        have := ha i m hi (by omega)
        have h1 : ¬ l.getD m 0 < x := by omega
        have h2 : (l.getD m 0 == x) = false := by simpa using hx
        simp only [List.filter_cons, h2, List.countP_cons, List.countP_nil, h1, List.filter_nil]
        simp
      · have h2 : (l.getD m 0 == x) = false := by simpa using hx
        have hnot : ¬ x ∈ l.take m ++ [l.getD m 0] := by
          intro h
          rcases List.mem_append.1 h with h | h
          · exact hin h
          · exact hx (List.mem_singleton.1 h).symm
        rw [if_neg hin, if_neg hnot]
        simp only [List.filter_cons, h2, List.filter_nil]
        simp
theorem prsJ_eq {l : List Int} (ha : Asc l) (k j : Nat) (hj : j < l.length) :
    prsJ l k j = if l.getD k 0 - l.getD j 0 ∈ l.take (j + 1) then [((((l.take (j + 1)).countP (fun y => decide (y < l.getD k 0 - l.getD j 0)) : Nat) : Int), (j : Int))] else [] := by
  unfold prsJ prsI
  have e : (fun i : Nat => l.getD i 0 + l.getD j 0 == l.getD k 0) = fun i : Nat => l.getD i 0 == l.getD k 0 - l.getD j 0 := by
    funext i
    rw [Bool.eq_iff_iff]
    simp only [beq_iff_eq]
    omega
  rw [e, find_eq ha _ (j + 1) (by omega)]
  split <;> rfl
theorem prsJ_le {l : List Int} (ha : Asc l) (k j : Nat) (hj : j < l.length) : (prsJ l k j).length ≤ 1 := by
  rw [prsJ_eq ha k j hj]
  split <;> simp
theorem prs_le {l : List Int} (ha : Asc l) (k : Nat) : ∀ m, m ≤ l.length → (prs l k m).length ≤ m := by
  intro m
  induction m with
  | zero => intro _; simp [prs_zero]
  | succ m ih =>
    intro h
    rw [prs_succ, List.length_append]
    have := ih (by omega)
    have := prsJ_le ha k m (by omega)
    omega
/-- The parts of a sum: 0 ≤ A ≤ B < m. -/
theorem prs_mem {l : List Int} {k : Nat} : ∀ m, ∀ p ∈ prs l k m, ∃ i j : Nat, p = ((i : Int), (j : Int)) ∧ i ≤ j ∧ j < m ∧ l.getD i 0 + l.getD j 0 = l.getD k 0 := by
  intro m
  induction m with
  | zero => intro p hp; simp [prs_zero] at hp
  | succ m ih =>
    intro p hp
    rw [prs_succ] at hp
    rcases List.mem_append.1 hp with h | h
    · obtain ⟨i, j, e, h1, h2, h3⟩ := ih p h
      exact ⟨i, j, e, h1, by omega, h3⟩
    · unfold prsJ prsI at h
      simp only [List.mem_map, List.mem_filter, List.mem_range, beq_iff_eq] at h
      obtain ⟨i, ⟨hi, he⟩, rfl⟩ := h
      exact ⟨i, m, rfl, by omega, by omega, he⟩

/-- Rising, and within lo..hi, up to index k. -/
def risB (l : List Int) (lo hi : Int) (k : Nat) : Bool := (List.range k).all fun i => inB (l.getD i 0) lo hi && (decide (i = 0) || decide (l.getD (i - 1) 0 < l.getD i 0))
theorem risB_succ (l : List Int) (lo hi : Int) (k : Nat) : risB l lo hi (k + 1) = (risB l lo hi k && (inB (l.getD k 0) lo hi && (decide (k = 0) || decide (l.getD (k - 1) 0 < l.getD k 0)))) := by
  unfold risB
  rw [List.range_succ, List.all_append]
  simp
theorem risB_false {l : List Int} {lo hi : Int} {k : Nat} (n : Nat) (hk : k < n) (h : (inB (l.getD k 0) lo hi && (decide (k = 0) || decide (l.getD (k - 1) 0 < l.getD k 0))) = false) : risB l lo hi n = false := by
  unfold risB
  rw [List.all_eq_false]
  exact ⟨k, List.mem_range.2 hk, by rw [h]; simp⟩
theorem risB_asc {l : List Int} {lo hi : Int} : ∀ n, risB l lo hi n = true → n ≤ l.length → (∀ i, i < n → lo ≤ l.getD i 0 ∧ l.getD i 0 ≤ hi) ∧ ∀ i j, i < j → j < n → l.getD i 0 < l.getD j 0 := by
  intro n
  induction n with
  | zero => intro _ _; exact ⟨fun i h => absurd h (by omega), fun i j _ h => absurd h (by omega)⟩
  | succ n ih =>
    intro h hn
    rw [risB_succ] at h
    simp only [Bool.and_eq_true, Bool.or_eq_true, decide_eq_true_eq, inB] at h
    obtain ⟨h1, ⟨h2, h3⟩, h4⟩ := h
    obtain ⟨i1, i2⟩ := ih h1 (by omega)
    refine ⟨fun i hi => ?_, fun i j hij hj => ?_⟩
    · rcases Nat.lt_or_eq_of_le (Nat.le_of_lt_succ hi) with h | rfl
      · exact i1 i h
      · exact ⟨h2, h3⟩
    · rcases Nat.lt_or_eq_of_le (Nat.le_of_lt_succ hj) with h | rfl
      · exact i2 i j hij h
      · rcases h4 with h4 | h4
        · omega
        · rcases Nat.lt_or_eq_of_le (Nat.le_sub_one_of_lt hij) with h5 | rfl
          · have := i2 i (j - 1) h5 (by omega)
            omega
          · exact h4
/-- All of a chain but the sums. -/
def chB (l : List Int) : Bool := inB (l.length : Nat) 1 41 && (l.getD 0 0 == 1) && risB l 1 1000000 l.length
def sumsB (l : List Int) (k : Nat) : Bool := (List.range k).all fun i => decide (i = 0) || !(prs l i i).isEmpty
def chG (l : List Int) : Bool := chB l && sumsB l l.length
theorem sumsB_succ (l : List Int) (k : Nat) : sumsB l (k + 1) = (sumsB l k && (decide (k = 0) || !(prs l k k).isEmpty)) := by
  unfold sumsB
  rw [List.range_succ, List.all_append]
  simp
theorem sumsB_false {l : List Int} {k : Nat} (n : Nat) (hk : k < n) (h0 : k ≠ 0) (h : prs l k k = []) : sumsB l n = false := by
  unfold sumsB
  rw [List.all_eq_false]
  exact ⟨k, List.mem_range.2 hk, by simp [h, h0]⟩
/-- The last sum of each number from 1 to k - 1. -/
def stepsK (l : List Int) (k : Nat) : List (Int × Int) := (List.range (k - 1)).map fun i => (prs l (i + 1) (i + 1)).getLastD (0, 0)
theorem stepsK_succ (l : List Int) (k : Nat) (hk : 1 ≤ k) : stepsK l (k + 1) = stepsK l k ++ [(prs l k k).getLastD (0, 0)] := by
  unfold stepsK
  rw [show k + 1 - 1 = (k - 1) + 1 by omega, List.range_succ, List.map_append]
  simp [show k - 1 + 1 = k by omega]
theorem stepsK_length (l : List Int) (k : Nat) : (stepsK l k).length = k - 1 := by simp [stepsK]
theorem stepsK_one (l : List Int) : stepsK l 1 = [] := rfl

structure Chn (l : List Int) : Prop where
  pos : 1 ≤ l.length
  most : l.length ≤ 41
  one : l.getD 0 0 = 1
  rng : ∀ i, i < l.length → 1 ≤ l.getD i 0 ∧ l.getD i 0 ≤ 1000000
  asc : Asc l
theorem chn_of {l : List Int} (h : chB l = true) : Chn l := by
  unfold chB at h
  simp only [Bool.and_eq_true, inB, decide_eq_true_eq, beq_iff_eq] at h
  obtain ⟨⟨⟨h1, h2⟩, h3⟩, h4⟩ := h
  obtain ⟨h5, h6⟩ := risB_asc l.length h4 (Nat.le_refl _)
  exact ⟨by omega, by omega, h3, h5, h6⟩
theorem risB_of {l : List Int} {lo hi : Int} : ∀ n, (∀ i, i < n → lo ≤ l.getD i 0 ∧ l.getD i 0 ≤ hi) → (∀ i, i + 1 < n → l.getD i 0 < l.getD (i + 1) 0) → risB l lo hi n = true := by
  intro n
  induction n with
  | zero => intro _ _; rfl
  | succ n ih =>
    intro h1 h2
    rw [risB_succ, ih (fun i hi => h1 i (by omega)) (fun i hi => h2 i (by omega))]
    have := h1 n (by omega)
    simp only [Bool.true_and, Bool.and_eq_true, Bool.or_eq_true, decide_eq_true_eq, inB]
    refine ⟨this, ?_⟩
    rcases Nat.eq_zero_or_pos n with h | h
    · exact .inl h
    · right
      have := h2 (n - 1) (by omega)
      rwa [show n - 1 + 1 = n by omega] at this
theorem chn_chB {l : List Int} (h : Chn l) : chB l = true := by
  have h3 := h.one
  have h1 := h.pos
  have h2 := h.most
  unfold chB
  rw [risB_of l.length h.rng fun i hi => h.asc i (i + 1) (by omega) hi]
  simp only [Bool.and_true, Bool.and_eq_true, inB, decide_eq_true_eq, beq_iff_eq]
  exact ⟨⟨by omega, by omega⟩, h3⟩
theorem chG_chn {l : List Int} (h : chG l = true) : Chn l := chn_of (by unfold chG at h; simp only [Bool.and_eq_true] at h; exact h.1)
theorem chG_sums {l : List Int} (h : chG l = true) : ∀ k, 1 ≤ k → k < l.length → prs l k k ≠ [] := by
  intro k h1 h2 he
  unfold chG at h
  rw [sumsB_false l.length h2 (by omega) he] at h
  simp at h
theorem getLastD_snoc {α : Type} (l : List α) (a d : α) : (l ++ [a]).getLastD d = a := by simp
theorem last_form {l : List (Int × Int)} (h : l ≠ []) : l.getLastD (0, 0) = l[l.length - 1]'(by have := List.length_pos_iff.2 h; omega) := by
  rw [List.getLastD_eq_getLast?, List.getLast?_eq_getElem?]
  have := List.length_pos_iff.2 h
  simp [show l.length - 1 < l.length by omega]
end Go.Proofs.Ytppahohakiidmaa
/- The model's small functions of chains: rising lists, the sums of a number. -/
namespace Go.Proofs.Ytppahohakiidmaa
open Go.RowKit

/-- The cell of element k. -/
theorem Rd.intD {w : World} {B : Nat} {A : Option Addr} {l : List Int} (h : Rd w B 1 A l.length (l.map I)) {k : Nat} (hk : k < l.length) :
    ∃ b off, A = some ⟨b, off, none⟩ ∧ b < B ∧ w.cell? ⟨b, off + k, none⟩ = some (.int .i64 (l.getD k 0)) := by
  obtain ⟨b, off, e, hb, hc⟩ := h.int hk
  exact ⟨b, off, e, hb, by rw [hc]; simp [hk]⟩
/-- All cells of a list that is not empty. -/
theorem Rd.cells {w : World} {B : Nat} {A : Option Addr} {l : List Int} (h : Rd w B 1 A l.length (l.map I)) (h0 : 0 < l.length) :
    ∃ b off, A = some ⟨b, off, none⟩ ∧ b < B ∧ ∀ k, k < l.length → w.cell? ⟨b, off + k, none⟩ = some (.int .i64 (l.getD k 0)) := by
  obtain ⟨b, off, e, hb, hc⟩ := h.2 (by omega)
  refine ⟨b, off, e, hb, fun k hk => ?_⟩
  rw [hc k (by omega)]
  simp [I, hk]

end Go.Proofs.Ytppahohakiidmaa
/- The model's sums of a number of a list. -/
namespace Go.Proofs.Ytppahohakiidmaa
open Go.RowKit

theorem OwS.nil (w : World) (B : Nat) : OwS w B (.slice none 0 0) [] := World.ownsRow_nil _ _ _ _
theorem OwS.below {w w' : World} {B : Nat} {v : Value} {s : List (Int × Int)} (h : OwS w B v s) (hb : Below w.heap.size w w') : OwS w' B v s := own_below h hb
theorem OwS.base {w : World} {B B' : Nat} {v : Value} {s : List (Int × Int)} (h : OwS w B v s) (hB : B' ≤ B) : OwS w B' v s := own_base h hB
theorem OwS.rd {w : World} {B : Nat} {A : Option Addr} {c : Nat} {s : List (Int × Int)} (h : OwS w B (.slice A s.length c) s) : Rd w w.heap.size 2 A s.length (fl s) := Rd.of_own h

end Go.Proofs.Ytppahohakiidmaa
/- Whether a list is a chain, and its steps, by the model. -/
namespace Go.Proofs.Ytppahohakiidmaa
open Go.RowKit

theorem sumsB_one (l : List Int) : sumsB l 1 = true := rfl
theorem isEmpty_ne {α : Type} {l : List α} (h : l ≠ []) : l.isEmpty = false := by cases l with | nil => exact absurd rfl h | cons => rfl

end Go.Proofs.Ytppahohakiidmaa
/- The steps of a chain, by the model. -/
namespace Go.Proofs.Ytppahohakiidmaa
open Go.RowKit

/-- The last element of an own row of steps. -/
theorem OwS.last {w : World} {B : Nat} {A : Option Addr} {c q : Nat} {P : List (Int × Int)} (h : OwS w B (.slice A (q + 1) c) P) (hq : P.length = q + 1) :
    ∃ g x y, A = some ⟨g, 0, none⟩ ∧ B ≤ g ∧ g < w.heap.size ∧ w.cell? ⟨g, q * 2, none⟩ = some (.int .i64 x) ∧ w.cell? ⟨g, q * 2 + 1, none⟩ = some (.int .i64 y) ∧ P.getLastD (0, 0) = (x, y) := by
  unfold OwS at h
  rw [hq] at h
  obtain ⟨g, rfl, hB, hg, hc, _⟩ := own_at h (by omega)
  have hlt : q < P.length := by omega
  obtain ⟨f1, f2⟩ := fl_at hlt
  refine ⟨g, P[q].1, P[q].2, rfl, hB, hg, by rw [hc _ (by omega), f1], by rw [hc _ (by omega), f2], ?_⟩
  have hne : P ≠ [] := by intro h; rw [h] at hq; simp at hq
  rw [last_form hne]
  simp [hq]

end Go.Proofs.Ytppahohakiidmaa
/- The program's search in a rising list, and the sums of a number. -/
namespace Go.Proofs.Ytppahohakiidmaa
open Go.RowKit

/-- How many numbers of the list are less than x. -/
def cnt (l : List Int) (x : Int) : Nat := l.countP fun y => decide (y < x)
theorem cnt_at {l : List Int} {x : Int} {i : Nat} (hi : i ≤ l.length) (h1 : ∀ t, t < i → l.getD t 0 < x) (h2 : ∀ t, i ≤ t → t < l.length → x ≤ l.getD t 0) : cnt l x = i := by
  unfold cnt
  rw [← List.take_append_drop i l, List.countP_append, count_at i hi h1]
  have : (l.drop i).countP (fun y => decide (y < x)) = 0 := by
    rw [List.countP_eq_zero]
    intro y hy
    obtain ⟨j, hj, rfl⟩ := List.mem_iff_getElem.1 hy
    rw [List.length_drop] at hj
    have := h2 (i + j) (by omega) (by omega)
    rw [List.getElem_drop]
    simp only [decide_eq_true_eq]
    have e : l.getD (i + j) 0 = l[i + j]'(by omega) := by simp [show i + j < l.length by omega]
    omega
  omega
theorem mem_at {l : List Int} (ha : Asc l) {x : Int} {i : Nat} (hi : i ≤ l.length) (h1 : ∀ t, t < i → l.getD t 0 < x) (h2 : ∀ t, i ≤ t → t < l.length → x ≤ l.getD t 0) : decide (x ∈ l) = decide (i < l.length ∧ l.getD i 0 = x) := by
  rw [decide_eq_decide]
  have e := mem_take_getD (l := l) (k := l.length) (x := x) (Nat.le_refl _)
  rw [List.take_length] at e
  rw [e]
  constructor
  · rintro ⟨j, hj, rfl⟩
    rcases Nat.lt_trichotomy j i with h | rfl | h
    · have := h1 j h; omega
    · exact ⟨hj, rfl⟩
    · have := h2 i (Nat.le_refl _) (by omega)
      have := ha i j h hj
      omega
  · rintro ⟨h, rfl⟩
    exact ⟨i, h, rfl⟩
theorem asc_le {l : List Int} (ha : Asc l) {i j : Nat} (h : i ≤ j) (hj : j < l.length) : l.getD i 0 ≤ l.getD j 0 := by
  rcases Nat.lt_or_eq_of_le h with h | rfl
  · exact Int.le_of_lt (ha i j h hj)
  · exact Int.le_refl _

theorem cisNaN_any (x : Int) (w : World) : Calls Try.prog 107 #[.int .i64 x] w fun e w' => e = .returned (.bool false) ∧ w' = w := by
  go_enter Try.func107, Try.ntmps107
  go_wp2
  go_ret
  exact ⟨by simp, rfl⟩
theorem sisNaN_any (x : Int) (w : World) : Calls Try.prog 103 #[.int .i64 x] w fun e w' => e = .returned (.bool false) ∧ w' = w := by
  go_enter Try.func103, Try.ntmps103
  go_wp2
  go_ret
  exact ⟨by simp, rfl⟩
theorem less_any (x y : Int) (w : World) : Calls Try.prog 102 #[.int .i64 x, .int .i64 y] w fun e w' => e = .returned (.bool (decide (x < y))) ∧ w' = w := by
  go_enter Try.func102, Try.ntmps102
  go_wp2_with (go_at_call 107; refine (cisNaN_any _ _).mono ?_; rintro e w' ⟨rfl, rfl⟩)
  go_ret
  exact ⟨rfl, rfl⟩

set_option maxRecDepth 100000 in
set_option maxHeartbeats 2000000 in
theorem search_any (B : Nat) (A : Option Addr) (c : Nat) (l : List Int) (x : Int) (w : World) (hm : l.length ≤ 4000000) (ha : Asc l) (hr : Rd w B 1 A l.length (l.map I)) :
    Calls Try.prog 94 #[.slice A l.length c, .int .i64 x] w fun e w' => e = .returned (.tuple #[.int .i64 (cnt l x), .bool (decide (x ∈ l))]) ∧ Dr w w' := by
  have H := Lib.hid hr
  have HA := Lib.hid ha
  clear hr ha
  go_enter Try.func94, Try.ntmps94
  go_wp2
  go_loopw [7, 8] (fun lo hi wr => ∃ i j n : Nat, lo = .int .i64 i ∧ hi = .int .i64 j ∧ i ≤ j ∧ j ≤ l.length ∧ wr = w.drewN n ∧ (∀ t, t < i → l.getD t 0 < x) ∧ (∀ t, j ≤ t → t < l.length → x ≤ l.getD t 0)) (fun lo hi _ => (intOf hi).toNat - (intOf lo).toNat)
  case atStart => exact ⟨0, l.length, 0, rfl, rfl, by omega, by omega, rfl, fun t h => absurd h (by omega), fun t h1 h2 => by omega⟩
  case round =>
    obtain ⟨i, j, n, rfl, rfl, hij, hj, rfl, h1, h2⟩ := hrel
    have H1 := Lib.hid h1
    have H2 := Lib.hid h2
    clear h1 h2
    by_cases hlt : i < j
    · obtain ⟨b, off, rfl, hb, hc⟩ := H.out.cells (by omega)
      have cm := hc ((i + j) / 2) (by omega)
      obtain ⟨y, hy⟩ : ∃ y, l.getD ((i + j) / 2) 0 = y := ⟨_, rfl⟩
      rw [hy] at cm
      have HY := Lib.hid hy
      clear hc hy
      by_cases hyx : y < x
      · go_wp2_with (go_at_call 102; refine (less_any _ _ _).mono ?_; rintro e w' ⟨rfl, rfl⟩)
        go_roundw
        case rel =>
          refine ⟨(i + j) / 2 + 1, j, _, by rw [show ((i : Int) + (j : Int)) / 2 + 1 = (((i + j) / 2 + 1 : Nat) : Int) by omega], rfl, by omega, by omega, rfl, fun t ht => ?_, H2.out⟩
          have := asc_le HA.out (i := t) (j := (i + j) / 2) (by omega) (by omega)
          rw [HY.out] at this
          omega
        case measure => simp [intOf]; omega
      · go_wp2_with (go_at_call 102; refine (less_any _ _ _).mono ?_; rintro e w' ⟨rfl, rfl⟩)
        go_roundw
        case rel =>
          refine ⟨i, (i + j) / 2, _, rfl, by rw [show ((i : Int) + (j : Int)) / 2 = (((i + j) / 2 : Nat) : Int) by omega], by omega, by omega, rfl, H1.out, fun t ht htn => ?_⟩
          have := asc_le HA.out (i := (i + j) / 2) (j := t) ht htn
          rw [HY.out] at this
          omega
        case measure => simp [intOf]; omega
    · have : i = j := by omega
      subst this
      have E1 := Lib.hid (cnt_at hj H1.out H2.out)
      have E2 := Lib.hid (mem_at HA.out hj H1.out H2.out)
      by_cases hn : i < l.length
      · obtain ⟨b, off, rfl, hb, hc⟩ := H.out.cells (by omega)
        have cl := hc i hn
        obtain ⟨y, hy⟩ : ∃ y, l.getD i 0 = y := ⟨_, rfl⟩
        rw [hy] at cl
        have HY := Lib.hid hy
        have ii : (i : Int) < (l.length : Int) := by omega
        clear hc hy
        by_cases hyx : y = x
        · have hb : (y == x) = true := by simpa using hyx
          go_wp2_with (go_at_call 103; refine (sisNaN_any _ _).mono ?_; rintro e w' ⟨rfl, rfl⟩)
          go_ret2
          refine ⟨?_, Dr.mk _ _⟩
          rw [E1.out, E2.out, HY.out, decide_eq_true (show i < l.length ∧ y = x from ⟨hn, hyx⟩)]
          first | rfl | simp [*]
        · have hb : (y == x) = false := by simpa using hyx
          go_wp2_with (go_at_call 103; refine (sisNaN_any _ _).mono ?_; rintro e w' ⟨rfl, rfl⟩)
          go_ret2
          refine ⟨?_, Dr.mk _ _⟩
          rw [E1.out, E2.out, HY.out, decide_eq_false (show ¬ (i < l.length ∧ y = x) from fun h => hyx h.2)]
          first | rfl | simp [*]
      · go_wp2_with (go_at_call 103; refine (sisNaN_any _ _).mono ?_; rintro e w' ⟨rfl, rfl⟩)
        go_ret2
        refine ⟨?_, Dr.mk _ _⟩
        rw [E1.out, E2.out, decide_eq_false (show ¬ (i < l.length ∧ l.getD i 0 = x) from fun h => hn h.1)]
        first | rfl | simp [*]

theorem find_any (B : Nat) (A : Option Addr) (c : Nat) (l : List Int) (x : Int) (w : World) (hm : l.length ≤ 4000000) (ha : Asc l) (hr : Rd w B 1 A l.length (l.map I)) :
    Calls Try.prog 84 #[.slice A l.length c, .int .i64 x] w fun e w' => e = .returned (.tuple #[.int .i64 (cnt l x), .bool (decide (x ∈ l))]) ∧ Dr w w' := by
  have H := Lib.hid (search_any B A c l x w hm ha hr)
  clear ha hr
  go_enter Try.func84, Try.ntmps84
  go_wp2_with (go_at_call 94; refine H.out.mono ?_; rintro e w' ⟨rfl, hd⟩)
  go_ret2
  exact ⟨rfl, hd⟩
end Go.Proofs.Ytppahohakiidmaa
/- The program's sums of a number. -/
namespace Go.Proofs.Ytppahohakiidmaa
open Go.RowKit

theorem Rd.take {w : World} {B : Nat} {A : Option Addr} {l : List Int} (h : Rd w B 1 A l.length (l.map I)) {n : Nat} (hn : n ≤ l.length) : Rd w B 1 A n ((l.take n).map I) := by
  refine ⟨by simp; omega, fun h0 => ?_⟩
  obtain ⟨b, off, e, hb, hc⟩ := h.2 (by omega)
  refine ⟨b, off, e, hb, fun j hj => ?_⟩
  rw [hc j (by omega), List.map_take, List.getElem?_take]
  simp [show j < n by omega]
theorem asc_take {l : List Int} (h : Asc l) (n : Nat) : Asc (l.take n) := by
  intro i j hij hj
  rw [List.length_take] at hj
  have e : ∀ t, t < n → t < l.length → (l.take n).getD t 0 = l.getD t 0 := fun t h1 h2 => by simp [h1, h2]
  rw [e i (by omega) (by omega), e j (by omega) (by omega)]
  exact h i j hij (by omega)

set_option maxRecDepth 100000 in
set_option maxHeartbeats 2000000 in
theorem sumsOf_any (B : Nat) (A : Option Addr) (c k : Nat) (l : List Int) (w : World) (hch : Chn l) (hk : k < l.length) (hcap : l.length ≤ c) (hB : B ≤ w.heap.size) (hr : Rd w B 1 A l.length (l.map I)) :
    Calls Try.prog 93 #[.slice A l.length c, .int .i64 k] w fun e w' =>
      ∃ A' c', e = .returned (.slice A' (prs l k k).length c') ∧ OwS w' w.heap.size (.slice A' (prs l k k).length c') (prs l k k) ∧ Below w.heap.size w w' := by
  obtain ⟨b, off, rfl, hbB, hc⟩ := hr.cells (by omega)
  have H := Lib.hid hr
  have CH := Lib.hid hch
  have HC := Lib.hid hc
  have hl41 := hch.most
  clear hr hch hc
  obtain ⟨z, hz⟩ : ∃ z, l.getD k 0 = z := ⟨_, rfl⟩
  have hzr := CH.out.rng k hk
  rw [hz] at hzr
  have HZ := Lib.hid hz
  clear hz
  go_enter Try.func93, Try.ntmps93
  go_wp2
  go_loopw [5, 10] (fun ov jv wr => ∃ (j n : Nat) (A1 : Option Addr) (c1 : Nat), j ≤ k ∧ jv = .int .i64 j ∧ ov = .slice A1 n c1 ∧ n = (prs l k j).length ∧ OwS wr w.heap.size (.slice A1 n c1) (prs l k j) ∧ Below w.heap.size w wr) (fun _ j _ => k - (intOf j).toNat)
  case atStart => exact ⟨0, 0, none, 0, by omega, rfl, rfl, rfl, OwS.nil _ _, Below.refl _ _⟩
  case round =>
    obtain ⟨j, n, A1, c1, hj, rfl, rfl, hn, hown, hbel⟩ := hrel
    have OWN := Lib.hid hown
    have BEL := Lib.hid hbel
    have HN := Lib.hid hn
    have hs : w.heap.size ≤ wr.heap.size := hbel.size
    clear hown hbel hn
    by_cases hlt : j < k
    · obtain ⟨y, hy⟩ : ∃ y, l.getD j 0 = y := ⟨_, rfl⟩
      have hyr := CH.out.rng j (by omega)
      rw [hy] at hyr
      have ck := (BEL.out.cell (p := ⟨b, off + k, none⟩) (by simp only []; omega)).trans (HC.out k hk)
      have cj := (BEL.out.cell (p := ⟨b, off + j, none⟩) (by simp only []; omega)).trans (HC.out j (by omega))
      rw [HZ.out] at ck
      rw [hy] at cj
      have ij : (j : Int) < (l.length : Int) := by omega
      have ik : (k : Int) < (l.length : Int) := by omega
      have ic : (j : Int) + 1 ≤ (c : Int) := by omega
      have hdif : IntKind.i64.wrap (z - y) = z - y := IntWalk.i64_in _ (by omega)
      have hj1 : IntKind.i64.wrap ((j : Int) + 1) = (j : Int) + 1 := IntWalk.i64_in _ (by omega)
      have htn : ((j : Int) + 1).toNat = j + 1 := by omega
      have hj0 : (0 : Int) ≤ (j : Int) + 1 := by omega
      have hS := prs_succ l k j
      rw [prsJ_eq CH.out.asc k j (by omega), HZ.out, hy] at hS
      have hF := fun (W : World) (hb : Below w.heap.size w W) => find_any B (some ⟨b, off, none⟩) c (l.take (j + 1)) (z - y) W (by simp; omega) (asc_take CH.out.asc _) (by
        rw [List.length_take, Nat.min_eq_left (show j + 1 ≤ l.length by omega)]
        exact (H.out.below' hb hB).take (by omega))
      rw [List.length_take, Nat.min_eq_left (show j + 1 ≤ l.length by omega)] at hF
      have hcb : cnt (l.take (j + 1)) (z - y) ≤ 41 := by
        unfold cnt
        refine Nat.le_trans List.countP_le_length ?_
        simp; omega
      have e0 : (l.take (j + 1)).countP (fun y_1 => decide (y_1 < z - y)) = cnt (l.take (j + 1)) (z - y) := rfl
      rw [e0] at hS
      obtain ⟨a, ha⟩ : ∃ a, cnt (l.take (j + 1)) (z - y) = a := ⟨_, rfl⟩
      rw [ha] at hF hS hcb
      have hnb := prs_le CH.out.asc k j (by omega)
      rw [← HN.out] at hnb
      by_cases hq : z - y ∈ l.take (j + 1)
      · rw [if_pos hq] at hS
        rw [decide_eq_true hq] at hF
        have HS := Lib.hid hS
        have HF := Lib.hid hF
        clear hS hF hq e0 ha hy
        go_wp2
        refine wp_region_Tw [0, 1, 2, 3, 4, 5, 6, 7, 8, 9, 10, 11, 12, 14, 15, 16, 17, 18] [7, 11] (.lp 0 (.lp 1 (.lp 2 (.lp 3 (.lp 4 (.lp 5 (.lp 6 (.lp 8 (.lp 9 (.lp 10 (.ls 7 (.ls 11 (.lp 12 (.hv 13 (.lp 14 (.lp 15 (.lp 16 (.lp 17 (.lp 18 (.done)))))))))))))))))))) (by kernel_rfl) (by kernel_rfl) ?_
        (repeat (first | (refine T_lp rfl (fun K hK => ?_); go_simp; refine hK _ ?_; clear hK K) | (refine T_ls rfl rfl (fun K hK => ?_); go_simp; refine hK _ ?_; clear hK K)))
        (refine T_hv rfl (by kernel_rfl) (fun K hK => ?_); go_simp)
        go_at_call 84
        refine (HF.out wr.drew BEL.out.drew).mono ?_
        rintro e w2 ⟨rfl, ⟨nd, rfl⟩⟩
        (go_simp; refine hK _ _ ?_; clear hK K)
        (repeat (first | (refine T_lp rfl (fun K hK => ?_); go_simp; refine hK _ ?_; clear hK K) | (refine T_ls rfl rfl (fun K hK => ?_); go_simp; refine hK _ ?_; clear hK K)))
        refine T_done ?_
        go_wp2_with (at_builtin; refine list_step (fun K hK => ?_); refine step_app2 Try.underlying59 info_step rfl (by omega) rfl (.tmp 31) (.tmp 35) rfl w.heap.size n _ (fl (prs l k j)) rfl (World.ownsRow.alloc (by have h := OWN.out; unfold OwS at h; rw [← HN.out] at h; exact (own_below h (bDrewN (Below.refl _ wr) _))) _) (wr.drewN (1 + nd)).heap.size 1 (I (a : Int)) (I (j : Int)) rfl (by rw [World.cell?_alloc_at _ _ _ _ rfl]; rfl) (by rw [World.cell?_alloc_at _ _ _ _ rfl]; rfl) rfl rfl (by omega) (by simp; omega) ?_; intro A3 c3 w3 hown3 hg3 hbel3; go_simp; refine hK _ _ ?_; clear hK K)
        go_roundw
        case rel =>
          refine ⟨j + 1, n + 1, A3, c3, by omega, by go_num, rfl, ?_, ?_, ?_⟩
          · rw [HS.out, List.length_append, ← HN.out]; rfl
          · rw [HS.out]
            unfold OwS
            rw [fl_snoc, List.length_append, ← HN.out]
            exact hown3
          · exact ((bDrewN BEL.out (1 + nd)).alloc (by simp; omega) _).trans hbel3
        case measure => simp [intOf]; omega
      · rw [if_neg hq, List.append_nil] at hS
        rw [decide_eq_false hq] at hF
        have HS := Lib.hid hS
        have HF := Lib.hid hF
        clear hS hF hq e0 ha hy
        go_wp2
        refine wp_region_Tw [0, 1, 2, 3, 4, 5, 6, 7, 8, 9, 10, 11, 12, 14, 15, 16, 17, 18] [7, 11] (.lp 0 (.lp 1 (.lp 2 (.lp 3 (.lp 4 (.lp 5 (.lp 6 (.lp 8 (.lp 9 (.lp 10 (.ls 7 (.ls 11 (.lp 12 (.hv 13 (.lp 14 (.lp 15 (.lp 16 (.lp 17 (.lp 18 (.done)))))))))))))))))))) (by kernel_rfl) (by kernel_rfl) ?_
        (repeat (first | (refine T_lp rfl (fun K hK => ?_); go_simp; refine hK _ ?_; clear hK K) | (refine T_ls rfl rfl (fun K hK => ?_); go_simp; refine hK _ ?_; clear hK K)))
        (refine T_hv rfl (by kernel_rfl) (fun K hK => ?_); go_simp)
        go_at_call 84
        refine (HF.out wr.drew BEL.out.drew).mono ?_
        rintro e w2 ⟨rfl, ⟨nd, rfl⟩⟩
        (go_simp; refine hK _ _ ?_; clear hK K)
        (repeat (first | (refine T_lp rfl (fun K hK => ?_); go_simp; refine hK _ ?_; clear hK K) | (refine T_ls rfl rfl (fun K hK => ?_); go_simp; refine hK _ ?_; clear hK K)))
        refine T_done ?_
        go_wp2
        go_roundw
        case rel => exact ⟨j + 1, n, A1, c1, by omega, by go_num, rfl, by rw [HS.out]; exact HN.out, by rw [HS.out]; exact OWN.out, bDrewN BEL.out _⟩
        case measure => simp [intOf]; omega
    · have e : j = k := by omega
      subst e
      have hn := HN.out
      subst hn
      go_wp2
      go_ret
      exact ⟨A1, c1, rfl, OWN.out, BEL.out⟩
end Go.Proofs.Ytppahohakiidmaa
/- Whether a list is a chain, and its steps, by the program. -/
namespace Go.Proofs.Ytppahohakiidmaa
open Go.RowKit

/-- The steps that are answered: of no chain none. -/
def chS (l : List Int) : List (Int × Int) := if chG l then stepsK l l.length else []
theorem chS_true {l : List Int} (h : chG l = true) : chS l = stepsK l l.length := by unfold chS; rw [if_pos h]
theorem chS_false {l : List Int} (h : chG l = false) : chS l = [] := by unfold chS; rw [h]; rfl
theorem chS_le (l : List Int) : (chS l).length ≤ 1000 := by
  unfold chS
  split
  · rename_i h
    rw [stepsK_length]
    have := (chG_chn h).most
    omega
  · simp
theorem may_false {l : List Int} {k : Nat} (hk : k + 1 < l.length) (h : l.getD (k + 1) 0 ≤ l.getD k 0) : chB l = false := by
  unfold chB
  rw [risB_false (l := l) (lo := 1) (hi := 1000000) (k := k + 1) l.length hk (by
    rw [show k + 1 - 1 = k from rfl]
    have h1 : decide (l.getD k 0 < l.getD (k + 1) 0) = false := by rw [decide_eq_false_iff_not]; omega
    rw [h1]
    simp), Bool.and_false]
theorem may_end {l : List Int} (h1 : 1 ≤ l.length) (h2 : l.length ≤ 41) (h3 : l.getD 0 0 = 1) (h : ∀ i, i + 1 < l.length → l.getD i 0 < l.getD (i + 1) 0) : chB l = decide (l.getD (l.length - 1) 0 ≤ 1000000) := by
  have hup : ∀ j, j < l.length → ∀ i, i ≤ j → l.getD i 0 ≤ l.getD j 0 := by
    intro j
    induction j with
    | zero => intro _ i hi; rw [show i = 0 by omega]; exact Int.le_refl _
    | succ j ih =>
      intro hj i hi
      rcases Nat.lt_or_eq_of_le hi with hi | rfl
      · have := ih (by omega) i (by omega)
        have := h j hj
        omega
      · exact Int.le_refl _
  by_cases hle : l.getD (l.length - 1) 0 ≤ 1000000
  · rw [decide_eq_true hle]
    unfold chB
    rw [risB_of l.length (fun i hi => ⟨by have := hup i hi 0 (by omega); rw [h3] at this; exact this, by have := hup (l.length - 1) (by omega) i (by omega); omega⟩) h, h3]
    unfold inB
    rw [decide_eq_true (show (1 : Int) ≤ ((l.length : Nat) : Int) by omega), decide_eq_true (show ((l.length : Nat) : Int) ≤ 41 by omega)]
    rfl
  · rw [decide_eq_false hle]
    unfold chB
    rw [risB_false (l := l) (lo := 1) (hi := 1000000) (k := l.length - 1) l.length (by omega) (by
      unfold inB
      rw [decide_eq_false hle]
      simp), Bool.and_false]

/-- The last number of a list. -/
theorem endOf_any (B : Nat) (A : Option Addr) (c : Nat) (l : List Int) (w : World) (h1 : 1 ≤ l.length) (hl : l.length ≤ 1048576) (hr : Rd w B 1 A l.length (l.map I)) :
    Calls Try.prog 66 #[.slice A l.length c] w fun e w' => e = .returned (.int .i64 (l.getD (l.length - 1) 0)) ∧ w' = w := by
  obtain ⟨b, off, rfl, hbB, hc⟩ := hr.cells (by omega)
  have c1 := hc (l.length - 1) (by omega)
  obtain ⟨N, hN⟩ : ∃ N, l.length = N + 1 := ⟨l.length - 1, by omega⟩
  have hsub : IntKind.i64.wrap ((l.length : Int) - 1) = (N : Int) := by rw [IntWalk.i64_in _ (by omega)]; omega
  rw [show l.length - 1 = N by omega] at c1 ⊢
  have i1 : (N : Int) < (l.length : Int) := by omega
  obtain ⟨y, hy⟩ : ∃ y, l.getD N 0 = y := ⟨_, rfl⟩
  rw [hy] at c1 ⊢
  clear hc hr hy hN
  go_enter Try.func66, Try.ntmps66
  go_wp2
  go_ret
  exact ⟨rfl, rfl⟩

set_option maxRecDepth 100000 in
set_option maxHeartbeats 2000000 in
theorem mayBeChain_any (B : Nat) (A : Option Addr) (c : Nat) (l : List Int) (w : World) (hl : l.length ≤ 1048576) (hr : Rd w B 1 A l.length (l.map I)) :
    Calls Try.prog 92 #[.slice A l.length c] w fun e w' => e = .returned (.bool (chB l)) ∧ Dr w w' := by
  have H := Lib.hid hr
  clear hr
  by_cases h0 : l.length < 1
  · have i0 : (l.length : Int) < 1 := by omega
    have G := Lib.hid (show chB l = false by unfold chB inB; rw [decide_eq_false (show ¬ (1 : Int) ≤ ((l.length : Nat) : Int) by omega)]; rfl)
    go_enter Try.func92, Try.ntmps92
    go_wp2
    go_ret
    exact ⟨ret_bool G.out.symm, Dr.refl _⟩
  by_cases h41 : 41 < l.length
  · have i0 : ¬ (l.length : Int) < 1 := by omega
    have i1 : (41 : Int) < (l.length : Int) := by omega
    have G := Lib.hid (show chB l = false by unfold chB inB; rw [decide_eq_false (show ¬ ((l.length : Nat) : Int) ≤ 41 by omega)]; simp)
    go_enter Try.func92, Try.ntmps92
    go_wp2
    go_ret
    exact ⟨ret_bool G.out.symm, Dr.refl _⟩
  have i0 : ¬ (l.length : Int) < 1 := by omega
  have i1 : ¬ (41 : Int) < (l.length : Int) := by omega
  have ip : (0 : Int) < (l.length : Int) := by omega
  obtain ⟨b, off, rfl, hbB, hc⟩ := H.out.cells (by omega)
  have HC := Lib.hid hc
  have hc0 := hc 0 (by omega)
  rw [Nat.add_zero] at hc0
  obtain ⟨x, hx⟩ : ∃ x, l.getD 0 0 = x := ⟨_, rfl⟩
  rw [hx] at hc0
  clear hc
  by_cases h1 : x = 1
  case neg =>
    have G := Lib.hid (show chB l = false by unfold chB; rw [hx, (show (x == 1) = false by simpa using h1)]; simp)
    have h2b : (x != 1) = true := by simpa using h1
    clear hx h1
    go_enter Try.func92, Try.ntmps92
    go_wp2
    go_ret
    exact ⟨ret_bool G.out.symm, Dr.refl _⟩
  case pos =>
  subst h1
  have HX := Lib.hid hx
  clear hx
  obtain ⟨N, hN⟩ : ∃ N, l.length = N + 1 := ⟨l.length - 1, by omega⟩
  have hsub : IntKind.i64.wrap ((l.length : Int) - 1) = (N : Int) := by rw [IntWalk.i64_in _ (by omega)]; omega
  have HN := Lib.hid hN
  clear hN
  go_enter Try.func92, Try.ntmps92
  go_wp2
  go_loopw [21] (fun i wr => ∃ k n : Nat, k ≤ N ∧ i = .int .i64 k ∧ wr = w.drewN n ∧ ∀ t, t < k → l.getD t 0 < l.getD (t + 1) 0) (fun i _ => N - (intOf i).toNat)
  case atStart => exact ⟨0, 0, by omega, rfl, rfl, fun t h => absurd h (by omega)⟩
  case round =>
    obtain ⟨k, n, hk, rfl, rfl, hq⟩ := hrel
    have Q := Lib.hid hq
    clear hq
    by_cases hlt : k < N
    · have ik : (k : Int) < (N : Int) := by have := HN.out; omega
      have ikl : (k : Int) < (l.length : Int) := by have := HN.out; omega
      have ikl1 : (k : Int) + 1 < (l.length : Int) := by have := HN.out; omega
      have c1 := HC.out k (by have := HN.out; omega)
      have c2 := HC.out (k + 1) (by have := HN.out; omega)
      have hw1 : IntKind.i64.wrap ((k : Int) + 1) = (k : Int) + 1 := IntWalk.i64_in _ (by have := HN.out; omega)
      have htn : ((k : Int) + 1).toNat = k + 1 := by have := HN.out; omega
      have h01 : (0 : Int) ≤ (k : Int) + 1 := by have := HN.out; omega
      obtain ⟨y, hy⟩ : ∃ y, l.getD k 0 = y := ⟨_, rfl⟩
      obtain ⟨z, hz⟩ : ∃ z, l.getD (k + 1) 0 = z := ⟨_, rfl⟩
      rw [hy] at c1
      rw [hz] at c2
      by_cases hyz : z ≤ y
      · have G := Lib.hid (may_false (l := l) (k := k) (by have := HN.out; omega) (by rw [hy, hz]; exact hyz))
        clear hy hz
        go_wp2
        refine wp_region_Tw [0, 1, 2, 3, 4, 5, 6, 7, 8, 9] [3, 8] (.lp 0 (.lp 1 (.lp 2 (.lp 4 (.lp 5 (.lp 6 (.lp 7 (.ls 3 (.ls 8 (.lp 9 (.done))))))))))) (by kernel_rfl) (by kernel_rfl) ?_
        (repeat (first | (refine T_lp rfl (fun K hK => ?_); go_simp; refine hK _ ?_; clear hK K) | (refine T_ls rfl rfl (fun K hK => ?_); go_simp; refine hK _ ?_; clear hK K)))
        refine T_done ?_
        go_wp2
        go_ret
        exact ⟨ret_bool G.out.symm, ⟨n + 1, rfl⟩⟩
      · have G := Lib.hid (show ∀ t, t < k + 1 → l.getD t 0 < l.getD (t + 1) 0 from fun t ht => by
          rcases Nat.lt_or_eq_of_le (Nat.le_of_lt_succ ht) with h | rfl
          · exact Q.out t h
          · rw [hy, hz]; omega)
        clear hy hz
        go_wp2
        refine wp_region_Tw [0, 1, 2, 3, 4, 5, 6, 7, 8, 9] [3, 8] (.lp 0 (.lp 1 (.lp 2 (.lp 4 (.lp 5 (.lp 6 (.lp 7 (.ls 3 (.ls 8 (.lp 9 (.done))))))))))) (by kernel_rfl) (by kernel_rfl) ?_
        (repeat (first | (refine T_lp rfl (fun K hK => ?_); go_simp; refine hK _ ?_; clear hK K) | (refine T_ls rfl rfl (fun K hK => ?_); go_simp; refine hK _ ?_; clear hK K)))
        refine T_done ?_
        go_wp2
        go_roundw
        case rel => exact ⟨k + 1, _, by have := HN.out; omega, by go_num, rfl, G.out⟩
        case measure => simp [intOf]; omega
    · have e : k = N := by have := HN.out; omega
      subst e
      have c1 := HC.out k (by have := HN.out; omega)
      obtain ⟨y, hy⟩ : ∃ y, l.getD k 0 = y := ⟨_, rfl⟩
      rw [hy] at c1
      have ikl : (k : Int) < (l.length : Int) := by have := HN.out; omega
      have G := Lib.hid (show chB l = decide (y ≤ 1000000) by
        rw [may_end (by have := HN.out; omega) (by have := HN.out; omega) HX.out (fun t ht => Q.out t (by have := HN.out; omega)), show l.length - 1 = k by have := HN.out; omega, hy])
      have HE := Lib.hid (endOf_any B (some ⟨b, off, none⟩) c l (w.drewN n) (by omega) hl (H.out.drewN n))
      have HY := Lib.hid (show l.getD (l.length - 1) 0 = y by rw [show l.length - 1 = k by have := HN.out; omega]; exact hy)
      clear hy
      go_wp2_with (go_at_call 66; refine HE.out.mono ?_; rw [HY.out]; rintro e w' ⟨rfl, rfl⟩)
      go_ret
      exact ⟨ret_bool G.out.symm, Dr.mk _ _⟩

set_option maxRecDepth 100000 in
set_option maxHeartbeats 2000000 in
theorem implSteps_any (B : Nat) (A : Option Addr) (c : Nat) (l : List Int) (w : World) (hB : B ≤ w.heap.size) (hl : l.length ≤ 1048576) (hcap : l.length ≤ c) (hr : Rd w B 1 A l.length (l.map I)) :
    Calls Try.prog 77 #[.slice A l.length c] w fun e w' =>
      ∃ A' c', e = .returned (.tuple #[.slice A' (chS l).length c', .bool (chG l)]) ∧ OwS w' w.heap.size (.slice A' (chS l).length c') (chS l) ∧ Below w.heap.size w w' := by
  have H := Lib.hid hr
  have hM := mayBeChain_any B A c l w hl hr
  clear hr
  cases hq : chB l with
  | false =>
    have G := Lib.hid (show chG l = false by unfold chG; rw [hq]; rfl)
    rw [hq] at hM
    have HM := Lib.hid hM
    clear hM hq
    go_enter Try.func77, Try.ntmps77
    go_wp2_with (go_at_call 92; refine HM.out.mono ?_; rintro e w2 ⟨rfl, ⟨n, rfl⟩⟩)
    go_ret2
    exact ⟨none, 0, by rw [G.out, chS_false G.out]; rfl, by rw [chS_false G.out]; exact OwS.nil _ _, bDrewN (Below.refl _ _) n⟩
  | true =>
    have CH := Lib.hid (chn_of hq)
    have G := Lib.hid (show ∀ b, sumsB l l.length = b → chG l = b from fun b hb => by unfold chG; rw [hq, hb]; rfl)
    have hl1 := CH.out.pos
    have hl2 := CH.out.most
    rw [hq] at hM
    have HM := Lib.hid hM
    clear hM hq
    go_enter Try.func77, Try.ntmps77
    go_wp2_with (go_at_call 92; refine HM.out.mono ?_; rintro e w2 ⟨rfl, ⟨n, rfl⟩⟩)
    go_loopw [4, 5] (fun ov iv wr => ∃ (k n : Nat) (A1 : Option Addr) (c1 : Nat), 1 ≤ k ∧ k ≤ l.length ∧ iv = .int .i64 k ∧ ov = .slice A1 n c1 ∧ n = k - 1 ∧ sumsB l k = true ∧ wr.ownsRow w.heap.size 73 2 (.slice A1 n c1) n (fl (stepsK l k)) ∧ Below w.heap.size w wr) (fun _ i _ => l.length - (intOf i).toNat)
    case atStart => exact ⟨1, 0, none, 0, by omega, by omega, rfl, rfl, rfl, sumsB_one l, World.ownsRow_nil _ _ _ _, bDrewN (Below.refl _ _) n⟩
    case round =>
      obtain ⟨k, m, A1, c1, hk1, hk, rfl, rfl, hn, hsum, hown, hbel⟩ := hrel
      have OWN := Lib.hid hown
      have BEL := Lib.hid hbel
      have SU := Lib.hid hsum
      have hs : w.heap.size ≤ wr.heap.size := hbel.size
      clear hown hbel hsum
      by_cases hlt : k < l.length
      · have ik : (k : Int) < (l.length : Int) := by omega
        have hP := sumsOf_any B A c k l wr CH.out hlt hcap (by omega) (H.out.below' BEL.out hB)
        have hle := prs_le CH.out.asc k k (by omega)
        have SUC := Lib.hid (stepsK_succ l k hk1)
        have hS1 := sumsB_succ l k
        obtain ⟨P, hP'⟩ : ∃ P, prs l k k = P := ⟨_, rfl⟩
        by_cases he : P = []
        · have S := Lib.hid (G.out _ (sumsB_false l.length hlt (by omega) (by rw [hP', he])))
          rw [hP', he] at hP
          have HP := Lib.hid hP
          clear hP he hP' hle SUC hS1
          go_wp2_with (go_at_call 93; refine HP.out.mono ?_; rintro e w2 ⟨A', c', rfl, _, hb2⟩)
          go_ret2
          exact ⟨none, 0, by rw [S.out, chS_false S.out]; rfl, by rw [chS_false S.out]; exact OwS.nil _ _, BEL.out.trans (hb2.mono hs)⟩
        · have hpos := List.length_pos_iff.2 he
          rw [hP'] at hP hle SUC hS1
          rw [isEmpty_ne he, SU.out] at hS1
          have S := Lib.hid (show sumsB l (k + 1) = true by rw [hS1]; simp)
          obtain ⟨q, hq⟩ : ∃ q, P.length = q + 1 := ⟨P.length - 1, by omega⟩
          have hqb : q ≤ 41 := by omega
          rw [hq] at hP
          have HP := Lib.hid hP
          have HQ := Lib.hid hq
          have HN := Lib.hid hn
          have iq0 : ¬ ((q : Int) + 1 = 0) := by omega
          clear hP he hP' hpos hq hn hS1
          go_wp2_with fail
          go_at_call 93
          refine HP.out.mono ?_
          rintro e w2 ⟨A', c', rfl, hown2, hb2⟩
          obtain ⟨g, x, y, rfl, hgB, hgs, cx, cy, hlast⟩ := OwS.last hown2 HQ.out
          have LAST := Lib.hid hlast
          have hs2 : wr.heap.size ≤ w2.heap.size := hb2.size
          have OW2 := Lib.hid (own_below OWN.out hb2)
          have BE2 := Lib.hid (BEL.out.trans (hb2.mono hs))
          have iq : (q : Int) < (q : Int) + 1 := by omega
          have hn40 : m ≤ 40 := by have := HN.out; omega
          clear hown2 hb2 hlast
          go_wp2_with (at_builtin; refine list_step (fun K hK => ?_); refine step_app2 Try.underlying59 info_step rfl (by omega) rfl (.tmp 22) (.tmp 29) rfl w.heap.size m _ (fl (stepsK l k)) rfl (World.ownsRow.alloc OW2.out _) w2.heap.size 1 (I x) (I y) rfl (by simp) (by simp) rfl rfl (by omega) (by simp; omega) ?_; intro A3 c3 w3 hown3 hg3 hbel3; go_simp; refine hK _ _ ?_; clear hK K)
          go_roundw
          case rel =>
            refine ⟨k + 1, m + 1, A3, c3, by omega, by omega, by go_num, rfl, by have := HN.out; omega, S.out, ?_, (BE2.out.alloc (by omega) _).trans hbel3⟩
            rw [SUC.out, LAST.out, fl_snoc]
            exact hown3
          case measure => simp [intOf]; omega
      · have e : k = l.length := by omega
        subst e
        subst hn
        have S := Lib.hid (G.out _ SU.out)
        go_wp2
        go_ret2
        refine ⟨A1, c1, by rw [S.out, chS_true S.out, stepsK_length]; rfl, ?_, BEL.out⟩
        rw [chS_true S.out]
        unfold OwS
        rw [stepsK_length]
        exact OWN.out

end Go.Proofs.Ytppahohakiidmaa
/- The library's bit length, at this program. -/
namespace Go.Proofs.Ytppahohakiidmaa
open Go.Shelf
def bitsLays_ren : Go.Shelf.Ren := ⟨fun | 125 => 70 | 128 => 88 | 129 => 89 | n => n, fun | 46 => 58 | 3 => 3 | 51 => 78 | 53 => 80 | 4 => 4 | 5 => 5 | 9 => 9 | n => n, fun | n => n⟩
theorem bitsLays : Go.Proofs.Lays.n125 Try.prog bitsLays_ren := {
  mixed := by kernel_rfl
  f125 := Try.func70.trans (congrArg some (by kernel_rfl))
  f128 := Try.func88.trans (congrArg some (by kernel_rfl))
  f129 := Try.func89.trans (congrArg some (by kernel_rfl))
  t3 := Try.underlying3
  a3 := Try.isAgg3
  z3 := Try.sizeOf3
  v3 := Try.zeroValue3
  t4 := Try.underlying4
  a4 := Try.isAgg4
  z4 := Try.sizeOf4
  v4 := Try.zeroValue4
  t5 := Try.underlying5
  a5 := Try.isAgg5
  z5 := Try.sizeOf5
  v5 := Try.zeroValue5
  t9 := Try.underlying9
  a9 := Try.isAgg9
  z9 := Try.sizeOf9
  v9 := Try.zeroValue9
  t46 := Try.underlying58
  a46 := Try.isAgg58
  z46 := Try.sizeOf58
  v46 := Try.zeroValue58
  t51 := Try.underlying78
  a51 := Try.isAgg78
  z51 := Try.sizeOf78
  v51 := Try.zeroValue78
  t53 := Try.underlying80
  a53 := Try.isAgg80
  z53 := Try.sizeOf80
  v53 := Try.zeroValue80 }
theorem bitsLen_any (x : Int) (w : World) (h0 : 0 ≤ x) (h1 : x ≤ 18446744073709551615) :
    Calls Try.prog 70 #[.int .u64 x] w fun e w' => e = .returned (.int .i64 (Lib.bitLen x.toNat)) ∧ w' = w := Any.bits_Len bitsLays x w h0 h1
end Go.Proofs.Ytppahohakiidmaa
/- Bit lengths. -/
namespace Go.Proofs.Ytppahohakiidmaa
open Go.RowKit

def bl (n : Int) : Nat := Lib.bitLen n.toNat
theorem bl_more {n : Nat} {b : Nat} (hn : n ≤ 1000000) (h : 2 ^ b ≤ n) : b + 1 ≤ Lib.bitLen n := by
  rw [Lib.bitLen_shift b n h (by omega)]
  have h1 : n / 2 ^ b ≠ 0 := by
    have := Nat.div_pos h (Nat.two_pow_pos b)
    omega
  have h2 : n / 2 ^ b ≤ n := Nat.div_le_self _ _
  rw [Lib.bitLen_half (n / 2 ^ b) h1 (by omega)]
  omega
theorem bl_bd {n : Nat} (hn : n ≤ 1000000) : Lib.bitLen n ≤ 20 := Lib.bitLen_le n 20 (by omega) (by omega)

def isNum (n : Int) : Bool := inB n 1 1000000
def bitN (n : Int) : Int := if isNum n then (bl n : Int) else 0
theorem bitN_true {n : Int} (h : isNum n = true) : bitN n = bl n := by unfold bitN; rw [if_pos h]
theorem bitN_false {n : Int} (h : isNum n = false) : bitN n = 0 := by unfold bitN; rw [h]; rfl
theorem isNum_rng {n : Int} (h : isNum n = true) : 1 ≤ n ∧ n ≤ 1000000 := by
  unfold isNum inB at h
  simpa using h

theorem isExponent_any (n : Int) (w : World) : Calls Try.prog 105 #[.int .i64 n] w fun e w' => e = .returned (.bool (isNum n)) ∧ w = w' := by
  by_cases h1 : 1 ≤ n <;> by_cases h2 : n ≤ 1000000
  all_goals
    go_enter Try.func105, Try.ntmps105
    go_wp2
    go_ret
    exact ⟨ret_bool (by simp [isNum, inB, h1, h2]), rfl⟩

end Go.Proofs.Ytppahohakiidmaa
/- Lists that are answered if they are chains; copies of lists. -/
namespace Go.Proofs.Ytppahohakiidmaa
open Go.RowKit

/-- A list that is answered if b. -/
def selL (b : Bool) (l : List Int) : List Int := if b then l else []
theorem selL_true {b : Bool} {l : List Int} (h : b = true) : selL b l = l := by unfold selL; rw [if_pos h]
theorem selL_false {b : Bool} {l : List Int} (h : b = false) : selL b l = [] := by unfold selL; rw [h]; rfl
theorem selL_le {b : Bool} {l : List Int} (h : b = true → chG l = true) : (selL b l).length ≤ 1000 := by
  cases b with
  | false => simp [selL]
  | true => have := (chG_chn (h rfl)).most; rw [selL_true rfl]; omega
theorem and_chG {b : Bool} {l : List Int} (h : (b && chG l) = true) : chG l = true := by simp only [Bool.and_eq_true] at h; exact h.2

theorem eq_nil_I (A : Option Addr) (n c : Nat) (W : World) : (binOp .eql 22 (.slice A n c) (.slice none 0 0)).run Try.prog W = .ok (.bool A.isNone) W := by
  simp only [binOp]
  simp [run_equal_slice_nil W 22 3 A n c Try.underlying22]
theorem eq_nil_A (A : Option Addr) (n c : Nat) (W : World) : (binOp .eql 53 (.slice A n c) (.slice none 0 0)).run Try.prog W = .ok (.bool A.isNone) W := by
  simp only [binOp]
  simp [run_equal_slice_nil W 53 3 A n c Try.underlying53]
theorem Rd.addr {w : World} {B : Nat} {A : Option Addr} {l : List Int} (h : Rd w B 1 A l.length (l.map I)) (h0 : 0 < l.length) : ∃ a, A = some a := by
  obtain ⟨b, off, e, _⟩ := h.2 (by omega)
  exact ⟨_, e⟩
set_option maxRecDepth 100000 in
set_option maxHeartbeats 1000000 in
theorem cloneI_any (B : Nat) (A : Option Addr) (c : Nat) (l : List Int) (w : World) (hm : l.length ≤ 1000000) (h0 : 0 < l.length) (hB : B ≤ w.heap.size) (hr : Rd w B 1 A l.length (l.map I)) :
    Calls Try.prog 80 #[.slice A l.length c] w fun e w' => ∃ A' c', e = .returned (.slice A' l.length c') ∧ OwI w' w.heap.size (.slice A' l.length c') l ∧ Below w.heap.size w w' := by
  obtain ⟨ad, rfl⟩ := hr.addr h0
  have H := Lib.hid hr
  clear hr
  have hnil := fun W => eq_nil_I (some ad) l.length c W
  go_enter Try.func80, Try.ntmps80
  go_wp2_with (first
    | (at_builtin; refine list_step (fun K hK => ?_); refine step_appM Try.underlying22 info_int rfl (by omega) (by omega) rfl (.tmp 5) (.tmp 6) rfl w.heap.size 0 _ [] rfl (own_empty 1 (Nat.le_refl _)) _ l.length c (l.map I) rfl (H.out.alloc hB _) (ints_one l) (by omega) (by simp) ?_; intro A2 c2 w2 hown2 hg2 hbel2; go_simp; refine hK _ _ ?_; clear hK K))
  go_ret
  simp only [Nat.zero_add, List.nil_append] at hown2
  exact ⟨A2, c2, by simp, hown2, ((Below.refl _ _).alloc (Nat.le_refl _) _).trans hbel2⟩
set_option maxRecDepth 100000 in
set_option maxHeartbeats 1000000 in
theorem cloneA_any (B : Nat) (A : Option Addr) (c : Nat) (l : List Int) (w : World) (hm : l.length ≤ 1000000) (h0 : 0 < l.length) (hB : B ≤ w.heap.size) (hr : Rd w B 1 A l.length (l.map I)) :
    Calls Try.prog 83 #[.slice A l.length c] w fun e w' => ∃ A' c', e = .returned (.slice A' l.length c') ∧ OwI w' w.heap.size (.slice A' l.length c') l ∧ Below w.heap.size w w' := by
  obtain ⟨ad, rfl⟩ := hr.addr h0
  have H := Lib.hid hr
  clear hr
  have hnil := fun W => eq_nil_A (some ad) l.length c W
  go_enter Try.func83, Try.ntmps83
  go_wp2_with (first
    | (at_builtin; refine list_step (fun K hK => ?_); refine step_appM Try.underlying53 info_int rfl (by omega) (by omega) rfl (.tmp 5) (.tmp 6) rfl w.heap.size 0 _ [] rfl (own_empty 1 (Nat.le_refl _)) _ l.length c (l.map I) rfl (H.out.alloc hB _) (ints_one l) (by omega) (by simp) ?_; intro A2 c2 w2 hown2 hg2 hbel2; go_simp; refine hK _ _ ?_; clear hK K))
  go_ret
  simp only [Nat.zero_add, List.nil_append] at hown2
  exact ⟨A2, c2, by simp, hown2, ((Below.refl _ _).alloc (Nat.le_refl _) _).trans hbel2⟩
/-- The same at nil. -/
theorem cloneA_nil (w : World) : Calls Try.prog 83 #[.slice none 0 0] w fun e w' => e = .returned (.slice none 0 0) ∧ w = w' := by
  have hnil := fun W => eq_nil_A none 0 0 W
  go_enter Try.func83, Try.ntmps83
  go_wp2
  go_ret
  exact ⟨rfl, rfl⟩
end Go.Proofs.Ytppahohakiidmaa
/- The first star chains with an end, at most so many: what is done with each that is met. -/
namespace Go.Proofs.Ytppahohakiidmaa
open Go.RowKit

theorem own_keepG {w w' : World} {B e sz n : Nat} {v : Value} {xs : List Value} (h : w.ownsRow B e sz v n xs) (hk : ∀ g, v.ownBlock = some g → w'.heap[g]? = w.heap[g]?) : w'.ownsRow B e sz v n xs := by
  refine ⟨h.1, ?_⟩
  rcases h.2 with h0 | ⟨g, cap, cur, hv, hb, hg, r⟩
  · exact .inl h0
  · exact .inr ⟨g, cap, cur, hv, hb, (hk g (by rw [hv]; rfl)).trans hg, r⟩
/-- A box of another type is not the row's block. -/
theorem own_nbox {w : World} {B e sz n b : Nat} {t : TypeId} {v u : Value} {xs : List Value} (h : w.ownsRow B e sz v n xs) (hb : w.heap[b]? = some (.cells #[u] t (0, 0))) (hne : e ≠ t) : ∀ g, v.ownBlock = some g → g ≠ b := by
  intro g hg e'
  subst e'
  rcases h.2 with ⟨rfl, _⟩ | ⟨g', cap, cur, hv, _, hh, _⟩
  · cases hg
  · rw [hv] at hg
    have e1 : g' = g := by simpa [Value.ownBlock] using hg
    subst e1
    rw [hb] at hh
    injection hh with hh
    injection hh with _ h2
    exact hne h2.symm

section
variable {ops : Array Oper} {o : Oper} {a : Act} {Q : Exit → Act → World → Prop} {w : World}
/-- append(v, x) of one list onto an own row of lists, and where the new row lies. -/
theorem step_app_rowH {K : Act → World → Prop} {E : Prop} (hgd : o.guard = none) (s x : Operand)
    (ho : o.op = .call { callee := .builtin .append, args := #[s, x], argTypes := #[35, 35] })
    (B n : Nat) (v : Value) (xs : List Value) (hs : a.eval s = v) (hown : w.ownsRow B 22 1 v n xs) (b c : Nat) (u : Value) (h1 : u.oneCell' = true) (hx : a.eval x = .slice (some ⟨b, 0, none⟩) 1 c)
    (hu : w.cell? ⟨b, 0, none⟩ = some u) (hn : n ≤ 4000000) (hB : B ≤ w.heap.size)
    (h : ∀ g cap w', w'.ownsRow B 22 1 (.slice (some ⟨g, 0, none⟩) (n + 1) cap) (n + 1) (xs ++ [u]) → w.grownBy w' v.ownBlock → Below B w w' → (v.ownBlock = some g ∨ g = w.heap.size) → K (a.put o.dst (.slice (some ⟨g, 0, none⟩) (n + 1) cap)) w') :
    if Region.wanted o (yielded ops a.tmps) = true then Oper.wp Try.prog o a w K Q else E := by
  obtain ⟨i0, hi, hz0, hz1, hz2⟩ := info_parts info_ints
  refine step_append_lies _ hgd s x _ ho B 22 i0 _ 1 24 Try.underlying35 hi hz0 hz1 hz2 rfl (by omega) v n xs hs hown ⟨b, 0, none⟩ 1 c [u] hx rfl ?_ ?_ (by omega) (by unfold maxLen; omega) (by omega) hB w.heap.size rfl ?_
  · intro j y hj
    match j, hj with
    | 0, hj => simp at hj; subst hj; simpa [Addr.add] using hu
  · intro y hy; simp at hy; subst hy; exact h1
  · intro g cap w' hown' hg hat _
    exact h g cap w' hown' hg (below_of_own hown hB hg) hat
end

/-- The memory of the first ones that were found. -/
structure FI (B n L most bL bn bl bC bM K : Nat) (r : Nat) (s : List (List Nat)) (X : Nat → Prop) (w : World) : Prop where
  hL : w.heap[bL]? = some (.cells #[.int .i64 (L : Int)] 3 (0, 0))
  hl : w.heap[bl]? = some (.cells #[.int .i64 (L : Int)] 3 (0, 0))
  hn : w.heap[bn]? = some (.cells #[.int .i64 (n : Int)] 3 (0, 0))
  hM : w.heap[bM]? = some (.cells #[.int .i64 (most : Int)] 3 (0, 0))
  hC : ∃ A c f, w.heap[bC]? = some (.cells #[.slice A s.length c] 35 (0, 0)) ∧ OwL w B A c f (L + 1) s.length (fun i => cs (s.getD i [])) ∧ Far f (L + 1) s.length ∧
    (∀ g, (Value.slice A s.length c).ownBlock = some g → ¬ X g) ∧ (∀ i, i < s.length → ∀ g, (Value.slice (f i).1 (L + 1) (f i).2).ownBlock = some g → ¬ X g)
  lt : ∀ b, b = bL ∨ b = bl ∨ b = bn ∨ b = bM ∨ b = bC → b < w.heap.size ∧ ¬ X b
  ne : bL ≠ bC ∧ bl ≠ bC ∧ bn ≠ bC ∧ bM ≠ bC
  bB : B ≤ bC
  cnt : s.length + r ≤ K

theorem FI.frame {B n L most bL bn bl bC bM K r : Nat} {s : List (List Nat)} {X X' : Nat → Prop} {w w' : World} (h : FI B n L most bL bn bl bC bM K r s X w) (F : Frm X w w') (hX : ∀ b, X' b → X b ∨ w.heap.size ≤ b) :
    FI B n L most bL bn bl bC bM K r s X' w' := by
  have hx : ∀ b, b < w.heap.size → ¬ X b → ¬ X' b := fun b h1 h2 h3 => by
    rcases hX b h3 with h | h
    · exact h2 h
    · omega
  have hk : ∀ b, b = bL ∨ b = bl ∨ b = bn ∨ b = bM ∨ b = bC → w'.heap[b]? = w.heap[b]? := fun b hb => F.block b (h.lt b hb).1 (h.lt b hb).2
  obtain ⟨A, c, f, h1, h2, h3, h4, h5⟩ := h.hC
  refine ⟨(hk bL (.inl rfl)).trans h.hL, (hk bl (.inr (.inl rfl))).trans h.hl, (hk bn (.inr (.inr (.inl rfl)))).trans h.hn, (hk bM (.inr (.inr (.inr (.inl rfl))))).trans h.hM,
    ⟨A, c, f, (hk bC (.inr (.inr (.inr (.inr rfl))))).trans h1, ⟨?_, ?_⟩, h3, ?_, ?_⟩, ?_, h.ne, h.bB, h.cnt⟩
  · exact own_keepG h2.1 fun g hg => F.block g (own_block h2.1 g hg).2 (h4 g hg)
  · exact fun i hi => own_keepG (h2.2 i hi) fun g hg => F.block g (own_block (h2.2 i hi) g hg).2 (h5 i hi g hg)
  · exact fun g hg => hx g (own_block h2.1 g hg).2 (h4 g hg)
  · exact fun i hi g hg => hx g (own_block (h2.2 i hi) g hg).2 (h5 i hi g hg)
  · intro b hb
    have := F.size
    have := (h.lt b hb)
    exact ⟨by omega, hx b this.1 this.2⟩

/-- One list more. -/
theorem FI.add {B n L most bL bn bl bC bM K r : Nat} {s : List (List Nat)} {X : Nat → Prop} {w w2 w4 : World} {c0 : List Nat} {A A1 : Option Addr} {c c1 g4 c4 : Nat} {f : Nat → Option Addr × Nat} {o : Obj}
    (h : FI B n L most bL bn bl bC bM K (r + 1) s X w) (hXw : ∀ b, X b → b < w.heap.size) (hB : B ≤ w.heap.size)
    (h1 : w.heap[bC]? = some (.cells #[.slice A s.length c] 35 (0, 0))) (h2 : OwL w B A c f (L + 1) s.length (fun i => cs (s.getD i []))) (h3 : Far f (L + 1) s.length)
    (h4 : ∀ g, (Value.slice A s.length c).ownBlock = some g → ¬ X g) (h5 : ∀ i, i < s.length → ∀ g, (Value.slice (f i).1 (L + 1) (f i).2).ownBlock = some g → ¬ X g)
    (hb2 : Below w.heap.size w w2) (hrow : w2.ownsRow w.heap.size 3 1 (.slice A1 (L + 1) c1) (L + 1) ((cs c0).map I))
    (hown : w4.ownsRow B 22 1 (.slice (some ⟨g4, 0, none⟩) (s.length + 1) c4) (s.length + 1) (TT f (L + 1) s.length ++ [.slice A1 (L + 1) c1]))
    (hg : (w2.alloc o).grownBy w4 (Value.slice A s.length c).ownBlock) (hat : (Value.slice A s.length c).ownBlock = some g4 ∨ g4 = (w2.alloc o).heap.size) :
    w4.heap[bC]? = some (.cells #[.slice A s.length c] 35 (0, 0)) ∧ FI B n L most bL bn bl bC bM K r (s ++ [c0]) X (w4.setCell ⟨bC, 0, none⟩ (.slice (some ⟨g4, 0, none⟩) (s.length + 1) c4)) ∧
      (∀ b, X b → b < w.heap.size → (w4.setCell ⟨bC, 0, none⟩ (.slice (some ⟨g4, 0, none⟩) (s.length + 1) c4)).heap[b]? = w.heap[b]?) ∧ w.heap.size ≤ w4.heap.size := by
  have hz2 := hb2.size
  have hz3 : (w2.alloc o).heap.size = w2.heap.size + 1 := by simp
  have hz4 := hg.size
  have hbC := h.lt bC (.inr (.inr (.inr (.inr rfl))))
  have hnA := own_nbox h2.1 h1 (by decide)
  -- a block that is old, and not the row's, stays
  have hold : ∀ b, b < w.heap.size → (Value.slice A s.length c).ownBlock ≠ some b → w4.heap[b]? = w.heap[b]? := fun b hb hne =>
    ((hg.block b (by omega) (fun e => hne e.symm)).trans (Below.heap_alloc w2 o b (by omega))).trans (hb2.block b hb)
  have hCA : (Value.slice A s.length c).ownBlock ≠ some bC := fun e => hnA bC e rfl
  have hC4 := (hold bC hbC.1 hCA).trans h1
  have hset : ∀ b, b ≠ bC → (w4.setCell ⟨bC, 0, none⟩ (.slice (some ⟨g4, 0, none⟩) (s.length + 1) c4)).heap[b]? = w4.heap[b]? := fun b hb => Below.heap_setCell w4 ⟨bC, 0, none⟩ _ b hb
  have hg4 : g4 ≠ bC := by
    rcases hat with e | e
    · exact hnA g4 e
    · omega
  have hnx4 : ¬ X g4 := by
    rcases hat with e | e
    · exact h4 g4 e
    · intro hx
      have := hXw g4 hx
      omega
  have hbox : ∀ b, b = bL ∨ b = bl ∨ b = bn ∨ b = bM → (w4.setCell ⟨bC, 0, none⟩ (.slice (some ⟨g4, 0, none⟩) (s.length + 1) c4)).heap[b]? = w.heap[b]? := fun b hb => by
    have hb' : b = bL ∨ b = bl ∨ b = bn ∨ b = bM ∨ b = bC := by
      rcases hb with h | h | h | h
      · exact .inl h
      · exact .inr (.inl h)
      · exact .inr (.inr (.inl h))
      · exact .inr (.inr (.inr (.inl h)))
    have hne : b ≠ bC := by
      rcases hb with h' | h' | h' | h' <;> subst h'
      · exact h.ne.1
      · exact h.ne.2.1
      · exact h.ne.2.2.1
      · exact h.ne.2.2.2
    have hz := h.lt b hb'
    refine (hset b hne).trans (hold b hz.1 ?_)
    intro e
    rcases hb with h' | h' | h' | h' <;> subst h'
    · exact own_nbox h2.1 h.hL (by decide) _ e rfl
    · exact own_nbox h2.1 h.hl (by decide) _ e rfl
    · exact own_nbox h2.1 h.hn (by decide) _ e rfl
    · exact own_nbox h2.1 h.hM (by decide) _ e rfl
  have hnew : (w4.setCell ⟨bC, 0, none⟩ (.slice (some ⟨g4, 0, none⟩) (s.length + 1) c4)).ownsRow B 3 1 (.slice A1 (L + 1) c1) (L + 1) ((cs c0).map I) := by
    have r1 := own_base hrow hB
    have r2 : (w2.alloc o).ownsRow B 3 1 (.slice A1 (L + 1) c1) (L + 1) ((cs c0).map I) := World.ownsRow.alloc r1 _
    have hlt1 := fun g hg => (own_block hrow g hg)
    refine own_keepG r1 fun g hgo => ?_
    have hl := hlt1 g hgo
    refine (hset g (by omega)).trans ((hg.block g (by omega) ?_).trans (Below.heap_alloc w2 o g hl.2))
    intro e
    have := own_block h2.1 g e.symm
    omega
  refine ⟨hC4, ⟨(hbox bL (.inl rfl)).trans h.hL, (hbox bl (.inr (.inl rfl))).trans h.hl, (hbox bn (.inr (.inr (.inl rfl)))).trans h.hn, (hbox bM (.inr (.inr (.inr rfl)))).trans h.hM, ?_, ?_, h.ne, h.bB, by have := h.cnt; rw [List.length_append, List.length_singleton]; omega⟩, ?_, by omega⟩
  · refine ⟨some ⟨g4, 0, none⟩, c4, upd f s.length (A1, c1), ?_, ⟨?_, ?_⟩, ?_, ?_, ?_⟩
    · rw [List.length_append, List.length_singleton]
      exact one_setCell hC4
    · rw [List.length_append, List.length_singleton, TT_upd]
      exact ownsRow_setCell_other hown (by simp only [Value.ownBlock, ne_eq, Option.some.injEq]; exact hg4) _
    · intro i hi
      rw [List.length_append, List.length_singleton] at hi
      rcases Nat.lt_or_ge i s.length with hlt | hge
      · have e : upd f s.length (A1, c1) i = f i := by simp [upd, show i ≠ s.length by omega]
        have e2 : (s ++ [c0]).getD i [] = s.getD i [] := by rw [List.getD_eq_getElem?_getD, List.getElem?_append_left hlt, ← List.getD_eq_getElem?_getD]
        rw [e]
        show World.ownsRow _ _ _ _ _ _ ((cs ((s ++ [c0]).getD i [])).map I)
        rw [e2]
        have hri := h2.2 i hlt
        refine own_keepG hri fun g hgo => ?_
        have hl := own_block hri g hgo
        refine (hset g (own_nbox hri h1 (by decide) g hgo)).trans (hold g hl.2 ?_)
        intro e3
        rcases own_ne hri h2.1 (by decide) with e4 | e4
        · rw [hgo] at e4; cases e4
        · exact e4 (hgo.trans e3.symm)
      · have ei : i = s.length := by omega
        subst ei
        have e : upd f s.length (A1, c1) s.length = (A1, c1) := by simp [upd]
        have e2 : (s ++ [c0]).getD s.length [] = c0 := by rw [List.getD_eq_getElem?_getD, List.getElem?_concat_length]; rfl
        rw [e]
        show World.ownsRow _ _ _ _ _ _ ((cs ((s ++ [c0]).getD s.length [])).map I)
        rw [e2]
        exact hnew
    · intro i j hi hj hij
      rw [List.length_append, List.length_singleton] at hi hj
      have hnb : ∀ g, (Value.slice A1 (L + 1) c1).ownBlock = some g → w.heap.size ≤ g := fun g hgo => (own_block hrow g hgo).1
      have hob : ∀ k, k < s.length → ∀ g, (Value.slice (f k).1 (L + 1) (f k).2).ownBlock = some g → g < w.heap.size := fun k hk g hgo => (own_block (h2.2 k hk) g hgo).2
      by_cases hi' : i = s.length
      · have hj' : j < s.length := by omega
        subst hi'
        have e : upd f s.length (A1, c1) s.length = (A1, c1) := by simp [upd]
        have e' : upd f s.length (A1, c1) j = f j := by simp [upd, show j ≠ s.length by omega]
        rw [e, e']
        cases hA1 : (Value.slice A1 (L + 1) c1).ownBlock with
        | none => exact .inl rfl
        | some g =>
          right
          intro e3
          have q1 := hnb g hA1
          have q2 := hob j hj' g e3.symm
          omega
      · have e' : upd f s.length (A1, c1) i = f i := by simp [upd, hi']
        by_cases hj' : j = s.length
        · subst hj'
          have e : upd f s.length (A1, c1) s.length = (A1, c1) := by simp [upd]
          rw [e, e']
          cases hA1 : (Value.slice (f i).1 (L + 1) (f i).2).ownBlock with
          | none => exact .inl rfl
          | some g =>
            right
            intro e3
            have q1 := hnb g e3.symm
            have q2 := hob i (by omega) g hA1
            omega
        · have e : upd f s.length (A1, c1) j = f j := by simp [upd, hj']
          rw [e, e']
          exact h3 i j (by omega) (by omega) hij
    · intro g hgo
      have e : g4 = g := by simpa [Value.ownBlock] using hgo
      rw [← e]
      exact hnx4
    · intro i hi g hgo hx
      rw [List.length_append, List.length_singleton] at hi
      by_cases hi' : i = s.length
      · subst hi'
        have e : upd f s.length (A1, c1) s.length = (A1, c1) := by simp [upd]
        rw [e] at hgo
        have q1 := (own_block hrow g hgo).1
        have q2 := hXw g hx
        omega
      · have e' : upd f s.length (A1, c1) i = f i := by simp [upd, hi']
        rw [e'] at hgo
        exact h5 i (by omega) g hgo hx
  · intro b hb
    have h0 := h.lt b hb
    have : (w4.setCell ⟨bC, 0, none⟩ (.slice (some ⟨g4, 0, none⟩) (s.length + 1) c4)).heap.size = w4.heap.size := by simp
    exact ⟨by omega, h0.2⟩
  · intro b hx hb
    refine (hset b (fun e => ?_)).trans (hold b hb ?_)
    · subst e
      exact hbC.2 hx
    · intro e
      exact h4 b e hx
end Go.Proofs.Ytppahohakiidmaa
/- The first star chains with an end, at most so many, by the program. -/
namespace Go.Proofs.Ytppahohakiidmaa
open Go.RowKit

def stepF (L : Nat) (s : List (List Nat)) (c : List Nat) : List (List Nat) := if c.length = L + 1 then s ++ [c] else s
theorem stepF_yes {L : Nat} {c : List Nat} (s : List (List Nat)) (h : c.length = L + 1) : stepF L s c = s ++ [c] := if_pos h
theorem stepF_no {L : Nat} {c : List Nat} (s : List (List Nat)) (h : c.length ≠ L + 1) : stepF L s c = s := if_neg h
def goF (most : Nat) (s : List (List Nat)) : Bool := decide (s.length < most)

theorem FI.less {B n L most bL bn bl bC bM K r r' : Nat} {s : List (List Nat)} {X : Nat → Prop} {w : World} (h : FI B n L most bL bn bl bC bM K r s X w) (hr : r' ≤ r) : FI B n L most bL bn bl bC bM K r' s X w :=
  ⟨h.hL, h.hl, h.hn, h.hM, h.hC, h.lt, h.ne, h.bB, by have := h.cnt; omega⟩

set_option maxRecDepth 100000 in
set_option maxHeartbeats 2000000 in
theorem firsts1_any (B n L most bL bn bl bC bM K r : Nat) (s : List (List Nat)) (X : Nat → Prop) (w : World) (gc cc : Nat) (c : List Nat) (m : Nat) (hI : FI B n L most bL bn bl bC bM K (r + 1) s X w) (hXw : ∀ b, X b → b < w.heap.size) (hcm : c.length = m) (hm1 : 1 ≤ m)
    (hmL : m ≤ L + 1) (hL : L ≤ 12) (hK : K ≤ 1000000) (hB : B ≤ w.heap.size) (hown : OwI w B (.slice (some ⟨gc, 0, none⟩) m cc) (cs c)) :
    Calls Try.prog 79 #[.slice (some ⟨gc, 0, none⟩) m cc, .pointer (some ⟨bL, 0, none⟩), .pointer (some ⟨bC, 0, none⟩), .pointer (some ⟨bM, 0, none⟩)] w fun e w' =>
      e = .returned (.bool (goF most (stepF L s c))) ∧ FI B n L most bL bn bl bC bM K r (stepF L s c) X w' ∧ Below B w w' ∧ w.heap.size ≤ w'.heap.size ∧ ∀ b, X b → b < w.heap.size → w'.heap[b]? = w.heap[b]? := by
  obtain ⟨A, c0, f, h1, h2, h3, h4, h5⟩ := hI.hC
  have hLc := cell_of_one hI.hL
  have hMc := cell_of_one hI.hM
  have hCc := cell_of_one h1
  have hcnt := hI.cnt
  have hbC := hI.lt bC (.inr (.inr (.inr (.inr rfl))))
  have hbM := hI.lt bM (.inr (.inr (.inr (.inl rfl))))
  have hneM := hI.ne.2.2.2
  have hw1 : IntKind.i64.wrap ((L : Int) + 1) = (L : Int) + 1 := IntWalk.i64_in _ (by omega)
  have HI := Lib.hid hI
  have H2 := Lib.hid h2
  have HW := Lib.hid hown
  have HX := Lib.hid hXw
  have HH := Lib.hid (And.intro h1 (And.intro h3 (And.intro h4 h5)))
  clear hI h1 h2 h3 h4 h5 hXw hown
  by_cases he : m = L + 1
  case neg =>
    have G := Lib.hid (stepF_no (L := L) s (show c.length ≠ L + 1 by omega))
    have ime : ((m : Int) == (L : Int) + 1) = false := by rw [beq_eq_false_iff_ne]; omega
    have D := Lib.hid (show goF most (stepF L s c) = decide (s.length < most) by rw [G.out]; rfl)
    by_cases hlt : s.length < most
    · have ilt : (s.length : Int) < (most : Int) := by omega
      clear he hcm
      go_enter Try.func79, Try.ntmps79
      go_wp2
      go_ret
      exact ⟨ret_bool (by rw [D.out, decide_eq_true hlt]), by rw [G.out]; exact HI.out.less (by omega), Below.refl _ _, Nat.le_refl _, fun _ _ _ => rfl⟩
    · have ilt : ¬ (s.length : Int) < (most : Int) := by omega
      clear he hcm
      go_enter Try.func79, Try.ntmps79
      go_wp2
      go_ret
      exact ⟨ret_bool (by rw [D.out, decide_eq_false hlt]), by rw [G.out]; exact HI.out.less (by omega), Below.refl _ _, Nat.le_refl _, fun _ _ _ => rfl⟩
  case pos =>
  subst he
  have G := Lib.hid (stepF_yes (L := L) s hcm)
  have ime : ((L : Int) + 1 == (L : Int) + 1) = true := by simp
  have D := Lib.hid (show goF most (stepF L s c) = decide (s.length + 1 < most) by rw [G.out]; unfold goF; rw [List.length_append]; rfl)
  have hCL := fun (W : World) (hBW : w.heap.size ≤ W.heap.size) (hrW : Rd W w.heap.size 1 (some ⟨gc, 0, none⟩) (cs c).length ((cs c).map I)) => cloneI_any w.heap.size (some ⟨gc, 0, none⟩) cc (cs c) W (by rw [cs_len]; omega) (by rw [cs_len]; omega) hBW hrW
  rw [cs_len, hcm] at hCL
  have HCL := Lib.hid hCL
  have hrd : Rd w w.heap.size 1 (some ⟨gc, 0, none⟩) (L + 1) ((cs c).map I) := by
    have h := HW.out
    unfold OwI at h
    rw [cs_len, hcm] at h
    exact Rd.of_own h
  have HRD := Lib.hid hrd
  have CLEN := Lib.hid (show (cs c).length = L + 1 by rw [cs_len]; exact hcm)
  clear hCL hrd hcm
  go_enter Try.func79, Try.ntmps79
  go_wp2
  have HS := Lib.hid (show (fun x : World => x.cell? ⟨bC, 0, none⟩ = some (.slice A s.length c0)) w.drew from hCc)
  refine wp_region_T (fun x : World => x.cell? ⟨bC, 0, none⟩ = some (.slice A s.length c0)) [0, 1] [0] (.lp 1 (.ls 0 (.hv 2 (.hv 3 (.hv 4 (.hv 5 (.done))))))) (by kernel_rfl) (by kernel_rfl) ?_
  (repeat (refine T_lp rfl (fun K hK => ?_); go_simp; refine hK _ ?_; clear hK K))
  refine T_ls1 (v := .slice A s.length c0) rfl rfl HS.out (fun x hx => (by go_simp)) (fun K hK => ?_)
  (go_simp; refine hK _ ?_; clear hK K)
  (repeat (refine T_lp rfl (fun K hK => ?_); go_simp; refine hK _ ?_; clear hK K))
  refine T_hvS rfl (fun K hK => ?_)
  go_simp
  go_at_call 80
  refine (HCL.out w.drew (Nat.le_refl _) HRD.out.drew).mono ?_
  rintro e w2 ⟨A1, c1, rfl, hown2, hb2⟩
  have hb2' : Below w.heap.size w w2 := (Below.refl _ _).drew.trans hb2
  have HB2 := Lib.hid hb2'
  have hrow2 : w2.ownsRow w.heap.size 3 1 (.slice A1 (L + 1) c1) (L + 1) ((cs c).map I) := by
    have h := hown2
    unfold OwI at h
    rw [CLEN.out] at h
    exact h
  have HR2 := Lib.hid hrow2
  have S2 := Lib.hid (show (fun x : World => x.cell? ⟨bC, 0, none⟩ = some (.slice A s.length c0)) w2 from (hb2'.cell (p := ⟨bC, 0, none⟩) hbC.1).trans hCc)
  have hz2 := hb2'.size
  have OA := Lib.hid (show w2.ownsRow B 22 1 (.slice A s.length c0) s.length (TT f (L + 1) s.length) from own_keepG H2.out.1 fun g hg => hb2'.block g (own_block H2.out.1 g hg).2)
  clear hown2 hb2 hb2' hrow2
  go_simp
  refine hK _ _ S2.out ?_
  clear hK K
  (repeat (refine T_lp rfl (fun K hK => ?_); go_simp; refine hK _ ?_; clear hK K))
  refine T_hvS rfl (fun K hK => ?_)
  go_simp
  refine hK _ _ (show (fun x : World => x.cell? ⟨bC, 0, none⟩ = some (.slice A s.length c0)) (w2.alloc _) from (World.cell?_alloc_lt w2 _ ⟨bC, 0, none⟩ (by simp only []; omega)).trans S2.out) ?_
  clear hK K
  refine T_hv rfl (by kernel_rfl) (fun K hK => ?_)
  refine step_app_rowH rfl (.tmp 11) (.tmp 14) rfl B s.length _ (TT f (L + 1) s.length) rfl (World.ownsRow.alloc OA.out _) w2.heap.size 1 (.slice A1 (L + 1) c1) rfl rfl (by simp) (by omega) (by simp; omega) ?_
  intro g4 c4 w4 hown4 hg4 hbel4 hat4
  have hadd := HI.out.add HX.out hB HH.out.1 H2.out HH.out.2.1 HH.out.2.2.1 HH.out.2.2.2 HB2.out HR2.out hown4 hg4 hat4
  have fz := free_of_one hadd.1
  have cz := cell_of_one hadd.1
  have hCc4 := cell_of_one (one_setCell (u := .slice (some ⟨g4, 0, none⟩) (s.length + 1) c4) hadd.1)
  have HADD := Lib.hid hadd
  have HB4 := Lib.hid (show Below B w w4 from ((HB2.out.mono hB).alloc (by omega) _).trans hbel4)
  have hMc4 : (w4.setCell ⟨bC, 0, none⟩ (.slice (some ⟨g4, 0, none⟩) (s.length + 1) c4)).cell? ⟨bM, 0, none⟩ = some (.int .i64 (most : Int)) := cell_of_one hadd.2.1.hM
  have hCb : B ≤ bC := HI.out.bB
  clear hown4 hg4 hbel4 hat4 hadd
  (go_simp; refine hK _ _ ?_; clear hK K)
  (refine T_hv rfl (by kernel_rfl) (fun K hK => ?_); go_simp; refine hK _ _ ?_; clear hK K)
  refine T_done ?_
  by_cases hlt : s.length + 1 < most
  · have ilt : (s.length : Int) + 1 < (most : Int) := by omega
    go_wp2
    go_ret
    exact ⟨ret_bool (by rw [D.out, decide_eq_true hlt]), by rw [G.out]; exact HADD.out.2.1, HB4.out.setCell hCb _, by have := HADD.out.2.2.2; simp; omega, HADD.out.2.2.1⟩
  · have ilt : ¬ (s.length : Int) + 1 < (most : Int) := by omega
    go_wp2
    go_ret
    exact ⟨ret_bool (by rw [D.out, decide_eq_false hlt]), by rw [G.out]; exact HADD.out.2.1, HB4.out.setCell hCb _, by have := HADD.out.2.2.2; simp; omega, HADD.out.2.2.1⟩
end Go.Proofs.Ytppahohakiidmaa
/- There is a star chain of at most 9 steps for each number up to 100. -/
namespace Go.Proofs.Ytppahohakiidmaa
def shTab : List Nat := [0, 1, 2, 2, 3, 3, 4, 3, 4, 4, 5, 4, 5, 5, 5, 4, 5, 5, 6, 5, 6, 6, 6, 5, 6, 6, 6, 6, 7, 6, 7, 5, 6, 6, 7, 6, 7, 7, 7, 6, 7, 7, 7, 7, 7, 7, 8, 6, 7, 7, 7, 7, 8, 7, 8, 7, 8, 8, 8, 7, 8, 8, 8, 6, 7, 7, 8, 7, 8, 8, 9, 7, 8, 8, 8, 8, 8, 8, 9, 7, 8, 8, 8, 8, 8, 8, 9, 8, 9, 8, 9, 8, 9, 9, 9, 7, 8, 8, 8, 8]
theorem short_tab : (List.range 100).all (fun i => !(shS (i + 1) (shTab.getD i 0) 1 [1]).isEmpty) = true := by decide +kernel
theorem short_ex {n : Nat} (h1 : 1 ≤ n) (h2 : n ≤ 100) : ∃ k, k ≤ 9 ∧ shS n k 1 [1] ≠ [] := by
  have h := List.all_eq_true.1 short_tab (n - 1) (List.mem_range.2 (by omega))
  rw [show n - 1 + 1 = n by omega] at h
  refine ⟨shTab.getD (n - 1) 0, ?_, fun e => by rw [e] at h; exact absurd h (by simp)⟩
  have hk : ∀ i, i < 100 → shTab.getD i 0 ≤ 9 := by decide
  exact hk _ (by omega)
end Go.Proofs.Ytppahohakiidmaa
/- The first star chains with an end: the call as a whole; the shortest ones. -/
namespace Go.Proofs.Ytppahohakiidmaa
open Go.RowKit

theorem runF {L most : Nat} : ∀ (R s : List (List Nat)), s.length < most → runD (stepF L) (goF most) s R = (s ++ R.filter fun l => l.length == L + 1).take most := by
  intro R
  induction R with
  | nil =>
    intro s h
    show s = _
    rw [List.filter_nil, List.append_nil, List.take_of_length_le (by omega)]
  | cons c R ih =>
    intro s h
    have hf : s ++ (c :: R).filter (fun l => l.length == L + 1) = stepF L s c ++ R.filter (fun l => l.length == L + 1) := by
      by_cases hc : c.length = L + 1
      · rw [stepF_yes s hc, List.filter_cons_of_pos (by simpa using hc), List.append_assoc]
        rfl
      · rw [stepF_no s hc, List.filter_cons_of_neg (by simpa using hc)]
    rw [hf]
    have hl : (stepF L s c).length ≤ s.length + 1 := by
      unfold stepF
      split
      · rw [List.length_append, List.length_singleton]; omega
      · omega
    cases hg : goF most (stepF L s c) with
    | true =>
      rw [runD_go hg]
      exact ih _ (by unfold goF at hg; simpa using hg)
    | false =>
      rw [runD_stop hg]
      have : ¬ (stepF L s c).length < most := by unfold goF at hg; simpa using hg
      rw [List.take_append_of_le_length (by omega), List.take_of_length_le (by omega)]
theorem firsts_run {n L most : Nat} (hm : 1 ≤ most) : (if fitN n L 1 0 then runD (stepF L) (goF most) [] (pre (fitN n L) L [1]) else []) = firstsN n L most := by
  unfold firstsN leafs
  split
  · rw [runF _ _ (show ([] : List (List Nat)).length < most by simp; omega)]
    rfl
  · rfl
theorem preN_9 {L : Nat} (h : L ≤ 9) : preN L 1 ≤ 500000 := by
  have h9 : ∀ L : Fin 10, preN L.val 1 ≤ 500000 := by decide +kernel
  exact h9 ⟨L, by omega⟩

/-- Five boxes. -/
theorem boxes5 {w : World} {o1 o2 o3 o4 o5 : Obj} {w5 : World} (h : ((((w.alloc o1).alloc o2).alloc o3).alloc o4).alloc o5 = w5) :
    w5.heap[w.heap.size]? = some o1 ∧ w5.heap[w.heap.size + 1]? = some o2 ∧ w5.heap[w.heap.size + 2]? = some o3 ∧ w5.heap[w.heap.size + 3]? = some o4 ∧ w5.heap[w.heap.size + 4]? = some o5 ∧ w5.heap.size = w.heap.size + 5 ∧ Below w.heap.size w w5 := by
  subst h
  have z1 : (w.alloc o1).heap.size = w.heap.size + 1 := by simp
  have z2 : ((w.alloc o1).alloc o2).heap.size = w.heap.size + 2 := by simp
  have z3 : (((w.alloc o1).alloc o2).alloc o3).heap.size = w.heap.size + 3 := by simp
  have z4 : ((((w.alloc o1).alloc o2).alloc o3).alloc o4).heap.size = w.heap.size + 4 := by simp
  have n1 := heap_alloc_new w o1
  have n2 := heap_alloc_new (w.alloc o1) o2
  have n3 := heap_alloc_new ((w.alloc o1).alloc o2) o3
  have n4 := heap_alloc_new (((w.alloc o1).alloc o2).alloc o3) o4
  have n5 := heap_alloc_new ((((w.alloc o1).alloc o2).alloc o3).alloc o4) o5
  rw [z1] at n2
  rw [z2] at n3
  rw [z3] at n4
  rw [z4] at n5
  refine ⟨?_, ?_, ?_, ?_, n5, by simp, ((((((Below.refl _ _).alloc (Nat.le_refl _) _).alloc (by omega) _).alloc (by omega) _).alloc (by omega) _).alloc (by omega) _)⟩
  · rw [Below.heap_alloc _ _ _ (by omega), Below.heap_alloc _ _ _ (by omega), Below.heap_alloc _ _ _ (by omega), Below.heap_alloc _ _ _ (by omega)]
    exact n1
  · rw [Below.heap_alloc _ _ _ (by omega), Below.heap_alloc _ _ _ (by omega), Below.heap_alloc _ _ _ (by omega)]
    exact n2
  · rw [Below.heap_alloc _ _ _ (by omega), Below.heap_alloc _ _ _ (by omega)]
    exact n3
  · rw [Below.heap_alloc _ _ _ (by omega)]
    exact n4

theorem stepsF (B n L most bL bn bl bC bM K : Nat) (hn : n ≤ 100) (hL : L ≤ 9) (hK : K ≤ 1000000) :
    Steps B (fitN n L) L 81 79 #[.pointer (some ⟨bl, 0, none⟩), .pointer (some ⟨bn, 0, none⟩)] #[.pointer (some ⟨bL, 0, none⟩), .pointer (some ⟨bC, 0, none⟩), .pointer (some ⟨bM, 0, none⟩)] (stepF L) (goF most) (FI B n L most bL bn bl bC bM K) where
  frame := fun _ _ _ _ _ _ h F hX => h.frame F hX
  fits := fun _ _ _ w s i h _ _ h3 => live_any n L s i bl bn w (by omega) hn h3 (cell_of_one h.hl) (cell_of_one h.hn)
  meet := fun r s X w gc cc c m hI _ hXw hc h1 h2 _ hB hown => firsts1_any B n L most bL bn bl bC bM K r s X w gc cc c m hI hXw hc h1 h2 (by omega) hK hB hown

set_option maxRecDepth 100000 in
set_option maxHeartbeats 2000000 in
theorem firstStars_any (n L most : Nat) (w : World) (hn : n ≤ 100) (hL : L ≤ 9) (hm1 : 1 ≤ most) :
    Calls Try.prog 55 #[.int .i64 (n : Int), .int .i64 (L : Int), .int .i64 (most : Int)] w fun e w' => ∃ A c f, e = .returned (.slice A (firstsN n L most).length c) ∧ OwL w' w.heap.size A c f (L + 1) (firstsN n L most).length (fun i => cs ((firstsN n L most).getD i [])) ∧ Far f (L + 1) (firstsN n L most).length ∧ Below w.heap.size w w' := by
  have hdat := firsts_run (n := n) (L := L) hm1
  obtain ⟨Z, hZ⟩ : ∃ Z, firstsN n L most = Z := ⟨_, rfl⟩
  rw [hZ] at hdat ⊢
  have HD := Lib.hid hdat
  have hpn : (pre (fitN n L) L [1]).length ≤ 500000 := Nat.le_trans (pre_most L [1]) (preN_9 hL)
  have HP := Lib.hid hpn
  clear hdat hpn hZ
  go_enter Try.func55, Try.ntmps55
  go_wp2_with fail
  generalize hw3 : World.alloc (World.alloc (World.alloc w _) _) _ = w3
  go_at_call 58
  have hz3 : w3.heap.size = w.heap.size + 3 := by rw [← hw3]; simp
  refine (liveNumbers_any n L w3).mono ?_
  rintro e w5 ⟨rfl, hw5⟩
  rw [← hw3] at hw5
  obtain ⟨q1, q2, q3, q4, q5, qz, qb⟩ := boxes5 hw5.symm
  rw [hz3]
  clear hw5 hw3 hz3
  obtain ⟨b, hb⟩ : ∃ b, w.heap.size = b := ⟨_, rfl⟩
  have hFI : FI b n L most b (b + 3) (b + 4) (b + 2) (b + 1) 500000 (pre (fitN n L) L [1]).length [] (fun _ => False) w5 := by
    rw [hb] at q1 q2 q3 q4 q5 qz
    refine ⟨q1, q5, q4, q2, ⟨none, 0, fun _ => (none, 0), q3, ⟨World.ownsRow_nil _ _ _ _, fun i hi => absurd hi (Nat.not_lt_zero _)⟩, fun i j hi => absurd hi (Nat.not_lt_zero _), fun _ _ h => h, fun _ _ _ _ h => h⟩, ?_, by omega, by omega, by have := HP.out; simpa using this⟩
    intro b' hb'
    exact ⟨by omega, fun h => h⟩
  have hrun := run_any b L 81 79 (fitN n L) _ _ (stepF L) (goF most) _ (enters_of Try.func81 (by kernel_rfl) rfl) (enters_of Try.func79 (by kernel_rfl) rfl)
    (stepsF b n L most b (b + 3) (b + 4) (b + 2) (b + 1) 500000 hn hL (by omega)) (by omega) (fun s i h => fitN_no1 (by omega)) w5 [] (by omega) hFI
  rw [HD.out] at hrun
  have HRUN := Lib.hid hrun
  have QB := Lib.hid (show Below b w w5 by rw [← hb]; exact qb)
  have HB := Lib.hid hb
  rw [hb]
  clear q1 q2 q3 q4 q5 qz qb hFI hrun hb
  go_wp2_with fail
  go_at_call 60
  refine (show Calls _ _ _ _ _ from HRUN.out).mono ?_
  rintro e w6 ⟨rfl, ⟨r, hI⟩, hb6⟩
  obtain ⟨A, c, f, h1, h2, h3, _⟩ := hI.hC
  have hcell := cell_of_one h1
  have H2 := Lib.hid h2
  have H3 := Lib.hid h3
  have H6 := Lib.hid (show Below b w w6 from QB.out.trans hb6)
  clear h1 h2 h3 hI hb6 HRUN
  go_wp2
  go_ret
  exact ⟨A, c, f, rfl, by rw [HB.out]; exact H2.out, H3.out, by rw [HB.out]; exact H6.out⟩
end Go.Proofs.Ytppahohakiidmaa
/- The shortest star chains, by the program. -/
namespace Go.Proofs.Ytppahohakiidmaa
open Go.RowKit

def lenA (n : Nat) : Nat → Nat → Nat
  | 0, k => k
  | f + 1, k => if (firstsN n k 1).isEmpty then lenA n f (k + 1) else k
theorem lenA_spec {n : Nat} : ∀ f k K, k ≤ K → K ≤ k + f → firstsN n K 1 ≠ [] → lenA n f k ≤ K ∧ firstsN n (lenA n f k) 1 ≠ [] ∧ ∀ j, k ≤ j → j < lenA n f k → firstsN n j 1 = [] := by
  intro f
  induction f with
  | zero =>
    intro k K h1 h2 h3
    have e : K = k := by omega
    subst e
    exact ⟨Nat.le_refl _, h3, fun j a b => absurd (show j < K from b) (by omega)⟩
  | succ f ih =>
    intro k K h1 h2 h3
    unfold lenA
    cases hq : firstsN n k 1 with
    | nil =>
      have hne : k ≠ K := fun e => h3 (by rw [← e]; exact hq)
      obtain ⟨i1, i2, i3⟩ := ih (k + 1) K (by omega) (by omega) h3
      simp only [List.isEmpty_nil, if_true]
      refine ⟨i1, i2, fun j a b => ?_⟩
      rcases Nat.lt_or_eq_of_le a with h | h
      · exact i3 j h b
      · rw [← h]; exact hq
    | cons x l =>
      rw [if_neg (by simp)]
      exact ⟨h1, by rw [hq]; simp, fun j a b => absurd b (by omega)⟩
def lenN (n : Nat) : Nat := lenA n 9 0
theorem lenN_spec {n : Nat} (h1 : 1 ≤ n) (h2 : n ≤ 100) : lenN n ≤ 9 ∧ firstsN n (lenN n) 1 ≠ [] ∧ ∀ j, j < lenN n → firstsN n j 1 = [] := by
  obtain ⟨K, hK, hne⟩ := short_ex h1 h2
  rw [shS_first h1 (Nat.le_refl _)] at hne
  obtain ⟨i1, i2, i3⟩ := lenA_spec 9 0 K (by omega) (by omega) hne
  exact ⟨Nat.le_trans i1 hK, i2, fun j h => i3 j (by omega) h⟩
theorem firsts_nil {n k most : Nat} (hm : 1 ≤ most) : firstsN n k most = [] ↔ firstsN n k 1 = [] := by
  unfold firstsN
  split
  · cases leafs (fitN n k) k k [1] with
    | nil => simp
    | cons x l =>
      obtain ⟨m, rfl⟩ : ∃ m, most = m + 1 := ⟨most - 1, by omega⟩
      simp
  · simp
theorem firsts_len {n k most : Nat} : (firstsN n k most).length ≤ most := by
  unfold firstsN
  split
  · rw [List.length_take]; omega
  · simp
/-- The shortest ones. -/
def shorts (n most : Nat) : List (List Nat) := firstsN n (lenN n) most

set_option maxRecDepth 100000 in
set_option maxHeartbeats 2000000 in
theorem shortestStars_any (n most : Nat) (w : World) (hn1 : 1 ≤ n) (hn : n ≤ 100) (hm1 : 1 ≤ most) :
    Calls Try.prog 56 #[.int .i64 (n : Int), .int .i64 (most : Int)] w fun e w' => ∃ A c f, e = .returned (.slice A (shorts n most).length c) ∧ OwL w' w.heap.size A c f (lenN n + 1) (shorts n most).length (fun i => cs ((shorts n most).getD i [])) ∧ Far f (lenN n + 1) (shorts n most).length ∧ Below w.heap.size w w' := by
  obtain ⟨k9, kne, kem⟩ := lenN_spec hn1 hn
  have hF := fun L (hL : L ≤ 9) (W : World) => firstStars_any n L most W hn hL hm1
  have hZne : shorts n most ≠ [] := fun e => kne ((firsts_nil hm1).1 e)
  have hZe : ∀ j, j < lenN n → firstsN n j most = [] := fun j h => (firsts_nil hm1).2 (kem j h)
  obtain ⟨K, hK⟩ : ∃ K, lenN n = K := ⟨_, rfl⟩
  have hZ : shorts n most = firstsN n K most := by unfold shorts; rw [hK]
  obtain ⟨Z, hZZ⟩ : ∃ Z, shorts n most = Z := ⟨_, rfl⟩
  rw [hK] at k9 hZe
  rw [hZZ] at hZne hZ
  rw [hK, hZZ]
  have HF := Lib.hid hF
  have HZ := Lib.hid hZ
  have HE := Lib.hid hZe
  have hR : 1 ≤ Z.length := List.length_pos_iff.2 hZne
  clear hF hZ hZe hZne kne kem hK hZZ
  go_enter Try.func56, Try.ntmps56
  go_wp2
  go_loopg [5, 6] (K + 2) (fun gk v5 v6 wr => ∃ (k : Nat) (A : Option Addr) (c R : Nat), v6 = .int .i64 (k : Int) ∧ v5 = .slice A R c ∧ K + 2 ≤ gk + k ∧ Aside (((R = 0 ∧ k ≤ K) ∨ (k = K + 1 ∧ R = Z.length ∧ ∃ f, OwL wr w.heap.size A c f (K + 1) R (fun i => cs (Z.getD i [])) ∧ Far f (K + 1) R)) ∧ Below w.heap.size w wr))
  case atStart => exact ⟨0, none, 0, 0, rfl, rfl, by omega, .inl ⟨rfl, by omega⟩, Below.refl _ _⟩
  case round =>
    obtain ⟨k, A, c, R, rfl, rfl, hgk, AS⟩ := hrel
    have BEL := Lib.hid AS.out.2
    have hs : w.heap.size ≤ wr.heap.size := AS.out.2.size
    rcases AS.out.1 with ⟨h0, hk⟩ | ⟨hk, hRl, hown⟩
    · clear AS
      subst h0
      have HC := Lib.hid (HF.out k (by omega) wr)
      by_cases hlt : k < K
      · have hnil := HE.out k hlt
        rw [hnil] at HC
        go_wp2_with (go_at_call 55; refine HC.out.mono ?_; rintro e w2 ⟨A2, c2, f2, rfl, hown2, hfar2, hb2⟩)
        go_roundg (gk - 1)
        case measure => omega
        case rel => exact ⟨k + 1, A2, c2, 0, by go_num, rfl, by omega, .inl ⟨rfl, by omega⟩, BEL.out.trans (hb2.mono hs)⟩
      · have e : k = K := by omega
        subst e
        rw [← HZ.out] at HC
        go_wp2_with (go_at_call 55; refine HC.out.mono ?_; rintro e w2 ⟨A2, c2, f2, rfl, hown2, hfar2, hb2⟩)
        go_roundg (gk - 1)
        case measure => omega
        case rel => exact ⟨k + 1, A2, c2, Z.length, by go_num, rfl, by omega, .inr ⟨rfl, rfl, f2, hown2.base hs, hfar2⟩, BEL.out.trans (hb2.mono hs)⟩
    · clear AS
      obtain ⟨f, ho, hf⟩ := hown
      have HO := Lib.hid ho
      have HFa := Lib.hid hf
      have HRl := Lib.hid hRl
      have ir : ((R : Int) == 0) = false := by rw [beq_eq_false_iff_ne]; omega
      clear ho hf hRl
      go_wp2
      go_ret
      have e := HRl.out
      subst e
      exact ⟨A, c, f, rfl, HO.out, HFa.out, BEL.out⟩
end Go.Proofs.Ytppahohakiidmaa
/- The model's search for star chains. -/
namespace Go.Proofs.Ytppahohakiidmaa
open Go.RowKit

def outI (n k most : Nat) (c : List Nat) (i : Nat) : List (List Nat) := (c.take i).foldl (shJ n k most c) []
theorem outI_end (n k most : Nat) (c : List Nat) : outI n k most c c.length = shS n (k + 1) most c := by
  unfold outI
  rw [List.take_of_length_le (Nat.le_refl _), shS_succ]
theorem outI_succ {n k most : Nat} {c : List Nat} {i : Nat} (h : i < c.length) : outI n k most c (i + 1) = shJ n k most c (outI n k most c i) (c.getD i 0) := by
  unfold outI
  rw [List.take_succ_eq_append_getElem h, List.foldl_append, List.getD_eq_getElem?_getD, List.getElem?_eq_getElem h]
  rfl
theorem shS_len {n : Nat} : ∀ k most (c : List Nat), 1 ≤ most → (shS n k most c).length ≤ most := by
  intro k
  induction k with
  | zero =>
    intro most c h
    show (if lastN c = n then [c] else []).length ≤ most
    split
    · simpa using h
    · simp
  | succ k ih =>
    intro most c h
    rw [shS_succ]
    have key : ∀ (ys : List Nat) (out : List (List Nat)), out.length ≤ most → (ys.foldl (shJ n k most c) out).length ≤ most := by
      intro ys
      induction ys with
      | nil => intro out ho; exact ho
      | cons a ys iha =>
        intro out ho
        rw [List.foldl_cons]
        apply iha
        unfold shJ
        split
        · exact ho
        · have := ih (most - out.length) (c ++ [lastN c + a]) (by omega)
          rw [List.length_append]
          omega
    exact key c [] (by simp)
theorem outI_len {n k most : Nat} {c : List Nat} (i : Nat) : (outI n k most c i).length ≤ most := by
  have key : ∀ (ys : List Nat) (out : List (List Nat)), out.length ≤ most → (ys.foldl (shJ n k most c) out).length ≤ most := by
    intro ys
    induction ys with
    | nil => intro out ho; exact ho
    | cons a ys iha =>
      intro out ho
      rw [List.foldl_cons]
      apply iha
      unfold shJ
      split
      · exact ho
      · have := shS_len (n := n) k (most - out.length) (c ++ [lastN c + a]) (by omega)
        rw [List.length_append]
        omega
  exact key _ [] (by simp)

def jn (f : Nat → Option Addr × Nat) (R : Nat) (g : Nat → Option Addr × Nat) : Nat → Option Addr × Nat := fun i => if i < R then f i else g (i - R)
theorem TT_jn (f g : Nat → Option Addr × Nat) (N R S : Nat) : TT (jn f R g) N (R + S) = TT f N R ++ TT g N S := by
  apply List.ext_getElem?
  intro i
  rcases Nat.lt_or_ge i R with h | h
  · rw [TT_at _ _ (by omega), List.getElem?_append_left (by rw [TT_length]; exact h), TT_at _ _ h]
    simp [jn, h]
  · rw [List.getElem?_append_right (by rw [TT_length]; exact h), TT_length]
    rcases Nat.lt_or_ge i (R + S) with h2 | h2
    · rw [TT_at _ _ h2, TT_at _ _ (by omega)]
      simp [jn, show ¬ i < R by omega]
    · rw [List.getElem?_eq_none (by rw [TT_length]; exact h2), List.getElem?_eq_none (by rw [TT_length]; omega)]
theorem TT_one (f : Nat → Option Addr × Nat) (N R : Nat) : ∀ u ∈ TT f N R, u.oneCell' = true := by
  intro u hu
  unfold TT at hu
  obtain ⟨_, _, rfl⟩ := List.mem_map.1 hu
  rfl

set_option maxRecDepth 100000 in
set_option maxHeartbeats 4000000 in
theorem shSearch_any (n : Nat) (hn : n ≤ 100) : ∀ (k N most m : Nat) (c : List Nat) (B : Nat) (A : Option Addr) (cc : Nat) (w : World), c.length = m → 1 ≤ m → m + k = N → N ≤ 20 → 1 ≤ most → most ≤ 300 → (∀ i, i < m → c.getD i 0 ≤ 100) → B ≤ w.heap.size → Rd w B 1 A m ((cs c).map I) →
    Calls Try.prog 52 #[.slice A m cc, .int .i64 (n : Int), .int .i64 (k : Int), .int .i64 (most : Int)] w fun e w' => ∃ A' c' f, e = .returned (.slice A' (shS n k most c).length c') ∧ OwL w' w.heap.size A' c' f N (shS n k most c).length (fun i => cs ((shS n k most c).getD i [])) ∧ Below w.heap.size w w' := by
  intro k
  induction k with
  | zero =>
    intro N most m c B A cc w hcm hm1 hN hN20 hmo1 hmo hc hB hr
    have hlen : (cs c).length = m := by rw [cs_len]; exact hcm
    obtain ⟨M, hM⟩ : ∃ M, m = M + 1 := ⟨m - 1, by omega⟩
    have hr' := hr
    rw [← hlen] at hr
    obtain ⟨b, off, rfl, hbB, hcells⟩ := hr.cells (by omega)
    have cl := hcells M (by omega)
    rw [cs_getD] at cl
    have hlast : lastN c = c.getD M 0 := by unfold lastN; rw [hcm, hM]; rfl
    obtain ⟨x, hx⟩ : ∃ x, c.getD M 0 = x := ⟨_, rfl⟩
    rw [hx] at cl hlast
    have hO := l1Own_any B (some ⟨b, off, none⟩) cc (cs c) w (by omega) hB hr
    rw [hlen] at hO
    have HO := Lib.hid hO
    have HL := Lib.hid hlast
    have hw1 : IntKind.i64.wrap ((m : Int) - 1) = (M : Int) := by rw [IntWalk.i64_in _ (by omega)]; omega
    have iM : (M : Int) < (m : Int) := by omega
    have HNm := Lib.hid (show N = m by omega)
    have HCL := Lib.hid hlen
    clear hr hr' hcells hO hlast hM hx hlen
    by_cases hxn : x = n
    · have E := Lib.hid (show shS n 0 most c = [c] from if_pos (by rw [HL.out]; exact hxn))
      have ixn : ((x : Int) == (n : Int)) = true := by rw [beq_iff_eq]; omega
      have ixn' : ((n : Int) == (n : Int)) = true := by simp
      subst hxn
      go_enter Try.func52, Try.ntmps52
      go_wp2_with (go_at_call 78; refine HO.out.mono ?_; rintro e w2 ⟨A2, c2, rfl, hown2, hb2⟩)
      go_ret
      rw [E.out]
      refine ⟨some ⟨w2.heap.size, 0, none⟩, 1, fun _ => (A2, c2), rfl, ⟨?_, ?_⟩, hb2.alloc hb2.size _⟩
      · have h := World.ownsRow_lit (base := w.heap.size) (e := 22) (size := 1) w2 #[.slice A2 m c2] 1 hb2.size (by unfold maxLen; omega) (by simp)
        rw [HNm.out]
        exact h
      · intro i hi
        have ei : i = 0 := by simp at hi; exact hi
        subst ei
        rw [HNm.out]
        have h := OwI.alloc hown2 (.cells #[.slice A2 m c2] 22)
        unfold OwI at h
        rw [HCL.out] at h
        exact h
    · have E := Lib.hid (show shS n 0 most c = [] from if_neg (by rw [HL.out]; exact hxn))
      have ixn : ((x : Int) == (n : Int)) = false := by rw [beq_eq_false_iff_ne]; omega
      go_enter Try.func52, Try.ntmps52
      go_wp2
      go_ret
      rw [E.out]
      exact ⟨none, 0, fun _ => (none, 0), rfl, ⟨World.ownsRow_nil _ _ _ _, fun i hi => absurd hi (Nat.not_lt_zero _)⟩, Below.refl _ _⟩
  | succ k ih =>
    intro N most m c B A cc w hcm hm1 hN hN20 hmo1 hmo hc hB hr
    have hlen : (cs c).length = m := by rw [cs_len]; exact hcm
    obtain ⟨M, hM⟩ : ∃ M, m = M + 1 := ⟨m - 1, by omega⟩
    have HRD := Lib.hid hr
    rw [← hlen] at hr
    obtain ⟨b, off, rfl, hbB, hcells⟩ := hr.cells (by omega)
    have HCE := Lib.hid (show ∀ i, i < m → w.cell? ⟨b, off + i, none⟩ = some (.int .i64 ((c.getD i 0 : Nat) : Int)) from fun i hi => by
      have := hcells i (by omega)
      rwa [cs_getD] at this)
    have cl := HCE.out M (by omega)
    have hlast : lastN c = c.getD M 0 := by unfold lastN; rw [hcm, hM]; rfl
    have hx100 := hc M (by omega)
    obtain ⟨x, hx⟩ : ∃ x, c.getD M 0 = x := ⟨_, rfl⟩
    rw [hx] at cl hlast hx100
    have hO := fun (W : World) (hBW : B ≤ W.heap.size) (hrW : Rd W B 1 (some ⟨b, off, none⟩) m ((cs c).map I)) => l1Own_any B (some ⟨b, off, none⟩) cc (cs c) W (by omega) hBW (by rw [hlen]; exact hrW)
    rw [hlen] at hO
    have HO := Lib.hid hO
    have HL := Lib.hid hlast
    have hw1 : IntKind.i64.wrap ((m : Int) - 1) = (M : Int) := by rw [IntWalk.i64_in _ (by omega)]; omega
    have iM : (M : Int) < (m : Int) := by omega
    have HCL := Lib.hid hlen
    have HC := Lib.hid hc
    have IH := Lib.hid ih
    have HCM := Lib.hid hcm
    have hE := outI_end n k most c
    obtain ⟨ZZ, hZZ⟩ : ∃ ZZ, shS n (k + 1) most c = ZZ := ⟨_, rfl⟩
    rw [hZZ] at hE ⊢
    have HE := Lib.hid hE
    obtain ⟨K1, hK1⟩ : ∃ K1, k + 1 = K1 := ⟨_, rfl⟩
    rw [hK1]
    have ik : ((K1 : Int) == 0) = false := by rw [beq_eq_false_iff_ne]; omega
    have hwk : IntKind.i64.wrap ((K1 : Int) - 1) = (k : Int) := by rw [IntWalk.i64_in _ (by omega)]; omega
    have HK1 := Lib.hid hK1
    clear hr hcells hO hlast hM hx hlen hc ih hcm hE hZZ hK1
    go_enter Try.func52, Try.ntmps52
    go_wp2
    go_loopw [10, 30] (fun ov iv wr => ∃ (i R1 : Nat) (A1 : Option Addr) (c1 : Nat) (f1 : Nat → Option Addr × Nat), iv = .int .i64 (i : Int) ∧ ov = .slice A1 R1 c1 ∧ i ≤ m ∧ Aside (R1 = (outI n k most c i).length ∧ OwL wr w.heap.size A1 c1 f1 N R1 (fun j => cs ((outI n k most c i).getD j [])) ∧ Below w.heap.size w wr)) (fun _ iv _ => m - (intOf iv).toNat)
    case atStart => exact ⟨0, 0, none, 0, fun _ => (none, 0), rfl, rfl, by omega, rfl, ⟨World.ownsRow_nil _ _ _ _, fun i hi => absurd hi (Nat.not_lt_zero _)⟩, Below.refl _ _⟩
    case round =>
      obtain ⟨i, R1, A1, c1, f1, rfl, rfl, hi, AS⟩ := hrel
      have HR1 := Lib.hid AS.out.1
      have OWN := Lib.hid AS.out.2.1
      have BEL := Lib.hid AS.out.2.2
      have hs : w.heap.size ≤ wr.heap.size := AS.out.2.2.size
      have hR1 : R1 ≤ most := by rw [AS.out.1]; exact outI_len i
      clear AS
      by_cases hlt : i < m
      · have iim : (i : Int) < (m : Int) := by omega
        have ci := (BEL.out.cell (p := ⟨b, off + i, none⟩) (by simp only []; omega)).trans (HCE.out i hlt)
        have ha100 := HC.out i hlt
        have hsucc := outI_succ (n := n) (k := k) (most := most) (c := c) (i := i) (by rw [HCM.out]; exact hlt)
        obtain ⟨a, ha⟩ : ∃ a, c.getD i 0 = a := ⟨_, rfl⟩
        rw [ha] at ci ha100 hsucc
        obtain ⟨s, hs'⟩ : ∃ s, x + a = s := ⟨_, rfl⟩
        obtain ⟨P, hP⟩ : ∃ P, s * 2 ^ k = P := ⟨_, rfl⟩
        have hjj : outI n k most c (i + 1) = if n < s ∨ P < n ∨ most ≤ R1 then outI n k most c i else outI n k most c i ++ shS n k (most - R1) (c ++ [s]) := by
          rw [hsucc]
          unfold shJ
          rw [HL.out, hs', hP, ← HR1.out]
        have hk20 : 2 ^ k ≤ 1048576 := Nat.pow_le_pow_right (n := 2) (by decide) (show k ≤ 20 by omega)
        have hPb : P ≤ 209715200 := by
          rw [← hP]
          have := Nat.mul_le_mul (show s ≤ 200 by omega) hk20
          omega
        have hwa : IntKind.i64.wrap ((x : Int) + (a : Int)) = (s : Int) := by rw [IntWalk.i64_in _ (by omega)]; omega
        have hPI : (s : Int) * 2 ^ k = (P : Int) := by rw [← hP]; push_cast; rfl
        have hwP : IntKind.i64.wrap (P : Int) = (P : Int) := IntWalk.i64_in _ (by omega)
        have JJ := Lib.hid hjj
        have HSX := Lib.hid hs'
        clear ha hsucc hP hjj hk20 hs'
        by_cases h1 : n < s
        · have i1 : (n : Int) < (s : Int) := by omega
          have E := Lib.hid (show outI n k most c (i + 1) = outI n k most c i by rw [JJ.out, if_pos (.inl h1)])
          clear h1
          go_wp2
          go_roundw
          case rel => exact ⟨i + 1, R1, A1, c1, f1, by go_num, rfl, by omega, by rw [E.out]; exact HR1.out, by rw [E.out]; exact OWN.out, BEL.out⟩
          case measure => simp [intOf]; omega
        have i1 : ¬ (n : Int) < (s : Int) := by omega
        by_cases h2 : P < n
        · have i2 : (P : Int) < (n : Int) := by omega
          have E := Lib.hid (show outI n k most c (i + 1) = outI n k most c i by rw [JJ.out, if_pos (.inr (.inl h2))])
          clear h2
          go_wp2
          go_roundw
          case rel => exact ⟨i + 1, R1, A1, c1, f1, by go_num, rfl, by omega, by rw [E.out]; exact HR1.out, by rw [E.out]; exact OWN.out, BEL.out⟩
          case measure => simp [intOf]; omega
        have i2 : ¬ (P : Int) < (n : Int) := by omega
        by_cases h3 : most ≤ R1
        · have i3 : (most : Int) ≤ (R1 : Int) := by omega
          have E := Lib.hid (show outI n k most c (i + 1) = outI n k most c i by rw [JJ.out, if_pos (.inr (.inr h3))])
          clear h3
          go_wp2
          go_roundw
          case rel => exact ⟨i + 1, R1, A1, c1, f1, by go_num, rfl, by omega, by rw [E.out]; exact HR1.out, by rw [E.out]; exact OWN.out, BEL.out⟩
          case measure => simp [intOf]; omega
        have i3 : ¬ (most : Int) ≤ (R1 : Int) := by omega
        have E := Lib.hid (show outI n k most c (i + 1) = outI n k most c i ++ shS n k (most - R1) (c ++ [s]) by rw [JJ.out, if_neg (by omega)])
        have HOW := Lib.hid (HO.out wr (by omega) (HRD.out.below' BEL.out hB))
        obtain ⟨q, hq⟩ : ∃ q, most - R1 = q := ⟨_, rfl⟩
        have hwq : IntKind.i64.wrap ((most : Int) - (R1 : Int)) = (q : Int) := by rw [IntWalk.i64_in _ (by omega)]; omega
        rw [hq] at E
        have hq1 : 1 ≤ q := by omega
        have hq300 : q ≤ 300 := by omega
        have hSl := shS_len (n := n) k q (c ++ [s]) hq1
        have IHC := Lib.hid (fun (B' : Nat) (A' : Option Addr) (cc' : Nat) (W : World) (h8 : B' ≤ W.heap.size) (h9 : Rd W B' 1 A' (m + 1) ((cs (c ++ [s])).map I)) => IH.out N q (m + 1) (c ++ [s]) B' A' cc' W (by rw [List.length_append, HCM.out]; rfl) (by omega) (by omega) hN20 hq1 hq300 (fun j hj => by
          rcases Nat.lt_or_ge j m with h | h
          · rw [List.getD_eq_getElem?_getD, List.getElem?_append_left (by rw [HCM.out]; exact h), ← List.getD_eq_getElem?_getD]
            exact HC.out j h
          · have ej : j = m := by omega
            subst ej
            rw [List.getD_eq_getElem?_getD, ← HCM.out, List.getElem?_concat_length]
            exact (by omega : s ≤ 100)) h8 h9)
        obtain ⟨Z, hZ⟩ : ∃ Z, shS n k q (c ++ [s]) = Z := ⟨_, rfl⟩
        rw [hZ] at E IHC hSl
        have CSN := Lib.hid (show cs c ++ [(s : Int)] = cs (c ++ [s]) from (cs_snoc c s).symm)
        clear h1 h2 h3 hq hZ
        go_wp2_with (first
          | (go_at_call 78; refine HOW.out.mono ?_; rintro e w5 ⟨A5, c5, rfl, hown5, hb5⟩; have O5 := Lib.hid hown5; have B5 := Lib.hid hb5; have hs5 : wr.heap.size ≤ w5.heap.size := hb5.size; clear hown5 hb5)
          | (at_builtin; refine list_step (fun K hK => ?_); refine step_app_int rfl (.tmp 56) (.tmp 58) rfl wr.heap.size m _ (cs c) rfl (OwI.alloc O5.out _) HCL.out w5.heap.size 1 (s : Int) rfl (by simp) (by omega) (by simp; omega) ?_; intro A6 c6 w6 hown6 hg6 hbel6; have O6 := Lib.hid hown6; have B6 := Lib.hid ((B5.out.alloc hs5 _).trans hbel6); have hs6 : wr.heap.size ≤ w6.heap.size := (by have := hbel6.size; simp at this; omega); clear hown6 hg6 hbel6; go_simp; refine hK _ _ ?_; clear hK K)
          | (go_at_call 52; refine (IHC.out w6.heap.size A6 c6 w6 (Nat.le_refl _) (by have h := O6.out; unfold OwI at h; rw [CSN.out, cs_len, List.length_append, HCM.out] at h; exact Rd.of_own h)).mono ?_; rintro e w7 ⟨A7, c7, f7, rfl, hown7, hb7⟩; have O7 := Lib.hid hown7; have B7 := Lib.hid (B6.out.trans (hb7.mono hs6)); have hs7 : wr.heap.size ≤ w7.heap.size := (by have := hb7.size; omega); clear hown7 hb7)
          | (at_builtin; refine list_step (fun K hK => ?_); refine step_appM Try.underlying35 info_ints rfl (by omega) (by omega) rfl (.tmp 54) (.tmp 67) rfl w.heap.size R1 _ (TT f1 N R1) rfl (own_below OWN.out.1 B7.out) A7 Z.length c7 (TT f7 N Z.length) rfl (Rd.of_own O7.out.1) (TT_one _ _ _) (by omega) (by omega) ?_; intro A8 c8 w8 hown8 hg8 hbel8; go_simp; refine hK _ _ ?_; clear hK K))
        go_roundw
        case rel =>
          refine ⟨i + 1, R1 + Z.length, A8, c8, jn f1 R1 f7, by go_num, rfl, by omega, by rw [E.out, List.length_append, HR1.out], ⟨by rw [TT_jn]; exact hown8, ?_⟩, (BEL.out.trans (B7.out.mono hs)).trans hbel8⟩
          intro j hj
          rcases Nat.lt_or_ge j R1 with h | h
          · have e1 : jn f1 R1 f7 j = f1 j := by simp [jn, h]
            have e2 : (outI n k most c (i + 1)).getD j [] = (outI n k most c i).getD j [] := by
              rw [E.out, List.getD_eq_getElem?_getD, List.getElem?_append_left (by rw [← HR1.out]; exact h), ← List.getD_eq_getElem?_getD]
            rw [e1]
            show World.ownsRow _ _ _ _ _ _ ((cs ((outI n k most c (i + 1)).getD j [])).map I)
            rw [e2]
            have hrow := own_below (OWN.out.2 j h) B7.out
            exact World.ownsRow.kept hrow hg8 (own_ne hrow (own_below OWN.out.1 B7.out) (by decide))
          · have e1 : jn f1 R1 f7 j = f7 (j - R1) := by simp [jn, show ¬ j < R1 by omega]
            have e2 : (outI n k most c (i + 1)).getD j [] = Z.getD (j - R1) [] := by
              rw [E.out, List.getD_eq_getElem?_getD, List.getElem?_append_right (by rw [← HR1.out]; exact h), ← HR1.out, ← List.getD_eq_getElem?_getD]
            rw [e1]
            show World.ownsRow _ _ _ _ _ _ ((cs ((outI n k most c (i + 1)).getD j [])).map I)
            rw [e2]
            have hrow := O7.out.2 (j - R1) (by omega)
            exact own_base (World.ownsRow.kept hrow hg8 (own_ne hrow (own_below OWN.out.1 B7.out) (by decide))) (by omega)
        case measure => simp [intOf]; omega
      · have e : i = m := by omega
        subst e
        have hE2 := HE.out
        rw [HCM.out] at hE2
        have HE2 := Lib.hid hE2
        clear hE2
        go_wp2
        go_ret
        have hr1 := HR1.out
        rw [HE2.out] at hr1
        subst hr1
        refine ⟨A1, c1, f1, rfl, ?_, BEL.out⟩
        have := OWN.out
        rw [HE2.out] at this
        exact this
end Go.Proofs.Ytppahohakiidmaa
/- How many digits are 1: the library's sum of bits, byte by byte. -/
namespace Go.Proofs.Ytppahohakiidmaa
open Go.RowKit

def dgF : Nat → Nat → Nat
  | 0, _ => 0
  | f + 1, n => n % 2 + dgF f (n / 2)
theorem dgF_succ (f n : Nat) : dgF (f + 1) n = n % 2 + dgF f (n / 2) := rfl
theorem dgF_split : ∀ (k f u y : Nat), u < 2 ^ k → dgF (k + f) (u + 2 ^ k * y) = dgF k u + dgF f y
  | 0, f, u, y, h => by
    have : u = 0 := by simpa using h
    subst this
    simp [dgF]
  | k + 1, f, u, y, h => by
    have e1 : (u + 2 ^ (k + 1) * y) % 2 = u % 2 := by rw [Nat.pow_succ, Nat.mul_comm (2 ^ k) 2, Nat.mul_assoc]; omega
    have e2 : (u + 2 ^ (k + 1) * y) / 2 = u / 2 + 2 ^ k * y := by rw [Nat.pow_succ, Nat.mul_comm (2 ^ k) 2, Nat.mul_assoc]; omega
    have e3 : u / 2 < 2 ^ k := by rw [Nat.pow_succ] at h; omega
    rw [show k + 1 + f = (k + f) + 1 by omega]
    rw [dgF_succ, dgF_succ, e1, e2, dgF_split k f (u / 2) y e3]
    omega
theorem land_split {u p : Nat} (hu : u < 256) (hp : p < 256) (v q : Nat) : (u + 256 * v) &&& (p + 256 * q) = (u &&& p) + 256 * (v &&& q) := by
  have h1 : ((u + 256 * v) &&& (p + 256 * q)) % 2 ^ 8 = u &&& p := by
    rw [Nat.and_mod_two_pow]
    congr 1 <;> omega
  have h2 : ((u + 256 * v) &&& (p + 256 * q)) / 2 ^ 8 = v &&& q := by
    rw [Nat.and_div_two_pow]
    congr 1 <;> omega
  omega
def s1 (b : Nat) : Nat := (b / 2 &&& 85) + (b &&& 85)
def s2 (c : Nat) : Nat := (c / 4 &&& 51) + (c &&& 51)
theorem byte1 : ∀ b : Fin 256, ∀ t : Fin 2, ((b.val / 2 + 128 * t.val) &&& 85) = (b.val / 2 &&& 85) := by decide +kernel
theorem byte2 : ∀ b : Fin 256, ∀ t : Fin 4, ((b.val / 4 + 64 * t.val) &&& 51) = (b.val / 4 &&& 51) := by decide +kernel
theorem byte3 : ∀ b : Fin 256, ∀ t : Fin 5, s1 b.val < 256 ∧ s2 (s1 b.val) < 256 ∧ s2 (s1 b.val) % 16 < 5 ∧ s2 (s1 b.val) / 16 + 16 * t.val + s2 (s1 b.val) < 256 ∧ ((s2 (s1 b.val) / 16 + 16 * t.val + s2 (s1 b.val)) &&& 15) = dgF 8 b.val ∧ dgF 8 b.val ≤ 8 := by decide +kernel
theorem byte4 : ∀ b : Fin 16, dgF 8 b.val = dgF 4 b.val := by decide +kernel
/-- The first two sums, of three bytes. -/
theorem sum1 {b0 b1 b2 : Nat} (h0 : b0 < 256) (h1 : b1 < 256) (h2 : b2 < 256) :
    ((b0 + 256 * (b1 + 256 * b2)) / 2 &&& 6148914691236517205) + ((b0 + 256 * (b1 + 256 * b2)) &&& 6148914691236517205) = s1 b0 + 256 * (s1 b1 + 256 * s1 b2) := by
  have m0 : 6148914691236517205 = 85 + 256 * (85 + 256 * (85 + 256 * 366503875925)) := by decide
  have e : (b0 + 256 * (b1 + 256 * b2)) / 2 = (b0 / 2 + 128 * (b1 % 2)) + 256 * ((b1 / 2 + 128 * (b2 % 2)) + 256 * ((b2 / 2 + 128 * 0) + 256 * 0)) := by omega
  have e' : b0 + 256 * (b1 + 256 * b2) = b0 + 256 * (b1 + 256 * (b2 + 256 * 0)) := by omega
  rw [e, e', m0]
  rw [land_split (by omega) (by omega), land_split (by omega) (by omega), land_split (by omega) (by omega), land_split (by omega) (by omega), land_split (by omega) (by omega), land_split (by omega) (by omega)]
  rw [byte1 ⟨b0, h0⟩ ⟨b1 % 2, by omega⟩, byte1 ⟨b1, h1⟩ ⟨b2 % 2, by omega⟩, byte1 ⟨b2, h2⟩ ⟨0, by omega⟩]
  simp only [Nat.zero_and]
  unfold s1
  omega
theorem sum2 {b0 b1 b2 : Nat} (h0 : b0 < 256) (h1 : b1 < 256) (h2 : b2 < 256) :
    ((b0 + 256 * (b1 + 256 * b2)) / 4 &&& 3689348814741910323) + ((b0 + 256 * (b1 + 256 * b2)) &&& 3689348814741910323) = s2 b0 + 256 * (s2 b1 + 256 * s2 b2) := by
  have m0 : 3689348814741910323 = 51 + 256 * (51 + 256 * (51 + 256 * 219902325555)) := by decide
  have e : (b0 + 256 * (b1 + 256 * b2)) / 4 = (b0 / 4 + 64 * (b1 % 4)) + 256 * ((b1 / 4 + 64 * (b2 % 4)) + 256 * ((b2 / 4 + 64 * 0) + 256 * 0)) := by omega
  have e' : b0 + 256 * (b1 + 256 * b2) = b0 + 256 * (b1 + 256 * (b2 + 256 * 0)) := by omega
  rw [e, e', m0]
  rw [land_split (by omega) (by omega), land_split (by omega) (by omega), land_split (by omega) (by omega), land_split (by omega) (by omega), land_split (by omega) (by omega), land_split (by omega) (by omega)]
  rw [byte2 ⟨b0, h0⟩ ⟨b1 % 4, by omega⟩, byte2 ⟨b1, h1⟩ ⟨b2 % 4, by omega⟩, byte2 ⟨b2, h2⟩ ⟨0, by omega⟩]
  simp only [Nat.zero_and]
  unfold s2
  omega
theorem sum3 {b0 b1 b2 : Nat} (h0 : b0 < 256) (h1 : b1 < 256) (h2 : b2 < 256) :
    (((s2 (s1 b0) + 256 * (s2 (s1 b1) + 256 * s2 (s1 b2))) / 16 + (s2 (s1 b0) + 256 * (s2 (s1 b1) + 256 * s2 (s1 b2)))) &&& 1085102592571150095) = dgF 8 b0 + 256 * (dgF 8 b1 + 256 * dgF 8 b2) := by
  have m0 : 1085102592571150095 = 15 + 256 * (15 + 256 * (15 + 256 * 64677154575)) := by decide
  obtain ⟨_, p2, p3, _, _, _⟩ := byte3 ⟨b0, h0⟩ ⟨0, by omega⟩
  obtain ⟨_, q2, q3, _, _, _⟩ := byte3 ⟨b1, h1⟩ ⟨0, by omega⟩
  obtain ⟨_, r2, r3, _, _, _⟩ := byte3 ⟨b2, h2⟩ ⟨0, by omega⟩
  obtain ⟨_, _, _, p4, p5, _⟩ := byte3 ⟨b0, h0⟩ ⟨s2 (s1 b1) % 16, q3⟩
  obtain ⟨_, _, _, q4, q5, _⟩ := byte3 ⟨b1, h1⟩ ⟨s2 (s1 b2) % 16, r3⟩
  obtain ⟨_, _, _, r4, r5, _⟩ := byte3 ⟨b2, h2⟩ ⟨0, by omega⟩
  simp only at p2 p3 q2 q3 r2 r3 p4 p5 q4 q5 r4 r5
  generalize s2 (s1 b0) = d0 at *
  generalize s2 (s1 b1) = d1 at *
  generalize s2 (s1 b2) = d2 at *
  have e : (d0 + 256 * (d1 + 256 * d2)) / 16 + (d0 + 256 * (d1 + 256 * d2)) = (d0 / 16 + 16 * (d1 % 16) + d0) + 256 * ((d1 / 16 + 16 * (d2 % 16) + d1) + 256 * ((d2 / 16 + 16 * 0 + d2) + 256 * 0)) := by omega
  rw [e, m0, land_split p4 (by omega), land_split q4 (by omega), land_split r4 (by omega), p5, q5, r5]
  simp only [Nat.zero_and]
  omega
theorem digits3 {b0 b1 b2 : Nat} (h0 : b0 < 256) (h1 : b1 < 256) (h2 : b2 < 16) : dgF 20 (b0 + 256 * (b1 + 256 * b2)) = dgF 8 b0 + dgF 8 b1 + dgF 8 b2 := by
  have e1 := dgF_split 8 12 b0 (b1 + 256 * b2) h0
  have e2 := dgF_split 8 4 b1 b2 h1
  have e3 := byte4 ⟨b2, h2⟩
  simp only at e3
  rw [show (8 : Nat) + 12 = 20 from rfl, show (2 : Nat) ^ 8 = 256 from rfl] at e1
  rw [show (8 : Nat) + 4 = 12 from rfl, show (2 : Nat) ^ 8 = 256 from rfl] at e2
  rw [e1, e2, e3]
  omega

theorem wrap_small (g : Nat) (h : g < 1000000) : IntKind.u64.wrap ((g : Int) + (g : Int) / 4294967296) = (g : Int) := by rw [IntKind.wrap_u64]; omega
theorem div_small (g : Nat) (h : g < 1000000) : (g : Int) / 4294967296 = 0 := by omega
set_option maxRecDepth 100000 in
set_option maxHeartbeats 2000000 in
theorem ones_any (x : Nat) (w : World) (hx : x < 1048576) :
    Calls Try.prog 87 #[.int .u64 (x : Int)] w fun e w' => e = .returned (.int .i64 (dgF 20 x : Nat)) ∧ w' = w := by
  obtain ⟨b0, hb0, b1, hb1, b2, hb2, rfl⟩ : ∃ b0, b0 < 256 ∧ ∃ b1, b1 < 256 ∧ ∃ b2, b2 < 16 ∧ x = b0 + 256 * (b1 + 256 * b2) := ⟨x % 256, by omega, x / 256 % 256, by omega, x / 65536, by omega, by omega⟩
  rw [digits3 hb0 hb1 hb2]
  have s_1 := sum1 hb0 hb1 (show b2 < 256 by omega)
  have p0 := byte3 ⟨b0, hb0⟩ ⟨0, by omega⟩
  have p1 := byte3 ⟨b1, hb1⟩ ⟨0, by omega⟩
  have p2 := byte3 ⟨b2, by omega⟩ ⟨0, by omega⟩
  simp only at p0 p1 p2
  have s_2 := sum2 p0.1 p1.1 p2.1
  have s_3 := sum3 hb0 hb1 (show b2 < 256 by omega)
  have d0 := p0.2.2.2.2.2
  have d1 := p1.2.2.2.2.2
  have d2 := p2.2.2.2.2.2
  have u0 := p0.2.1
  have u1 := p1.2.1
  have u2 := p2.2.1
  have v0 := p0.1
  have v1 := p1.1
  have v2 := p2.1
  clear p0 p1 p2
  generalize hP0 : dgF 8 b0 = P0 at *
  generalize hP1 : dgF 8 b1 = P1 at *
  generalize hP2 : dgF 8 b2 = P2 at *
  obtain ⟨x, hxe⟩ : ∃ x, b0 + 256 * (b1 + 256 * b2) = x := ⟨_, rfl⟩
  rw [hxe] at hx s_1 ⊢
  obtain ⟨C, hC⟩ : ∃ C, s1 b0 + 256 * (s1 b1 + 256 * s1 b2) = C := ⟨_, rfl⟩
  obtain ⟨D, hD⟩ : ∃ D, s2 (s1 b0) + 256 * (s2 (s1 b1) + 256 * s2 (s1 b2)) = D := ⟨_, rfl⟩
  have hCb : C < 16777216 := by omega
  have hDb : D < 16777216 := by omega
  rw [hC] at s_1 s_2
  rw [hD] at s_2 s_3
  clear hC hD hxe hb0 hb1 hb2 u0 u1 u2 v0 v1 v2 hP0 hP1 hP2
  obtain ⟨A, hA⟩ : ∃ A, x / 2 &&& 6148914691236517205 = A := ⟨_, rfl⟩
  obtain ⟨B, hB⟩ : ∃ B, x &&& 6148914691236517205 = B := ⟨_, rfl⟩
  obtain ⟨A2, hA2⟩ : ∃ A, C / 4 &&& 3689348814741910323 = A := ⟨_, rfl⟩
  obtain ⟨B2, hB2⟩ : ∃ B, C &&& 3689348814741910323 = B := ⟨_, rfl⟩
  have f1 : bits .and .u64 ((x : Int) / 2) 6148914691236517205 = (A : Int) := by
    have h := bits_and_u64_nat (x / 2) 6148914691236517205 (by omega) (by omega)
    rw [hA] at h
    exact h
  have f2 : bits .and .u64 (x : Int) 6148914691236517205 = (B : Int) := by
    have h := bits_and_u64_nat x 6148914691236517205 (by omega) (by omega)
    rw [hB] at h
    exact h
  have f4 : bits .and .u64 ((C : Int) / 4) 3689348814741910323 = (A2 : Int) := by
    have h := bits_and_u64_nat (C / 4) 3689348814741910323 (by omega) (by omega)
    rw [hA2] at h
    exact h
  have f5 : bits .and .u64 (C : Int) 3689348814741910323 = (B2 : Int) := by
    have h := bits_and_u64_nat C 3689348814741910323 (by omega) (by omega)
    rw [hB2] at h
    exact h
  have f7 : bits .and .u64 ((D : Int) / 16 + (D : Int)) 1085102592571150095 = ((P0 + 256 * (P1 + 256 * P2) : Nat) : Int) := by
    have h := bits_and_u64_nat (D / 16 + D) 1085102592571150095 (by omega) (by omega)
    rw [s_3] at h
    exact h
  rw [hA, hB] at s_1
  rw [hA2, hB2] at s_2
  have f3 : (A : Int) + (B : Int) = (C : Int) := by omega
  have f6 : (A2 : Int) + (B2 : Int) = (D : Int) := by omega
  have w1 : IntKind.u64.wrap (C : Int) = (C : Int) := by rw [IntKind.wrap_u64]; omega
  have w2 : IntKind.u64.wrap (D : Int) = (D : Int) := by rw [IntKind.wrap_u64]; omega
  have w3 : IntKind.u64.wrap ((D : Int) / 16 + (D : Int)) = (D : Int) / 16 + (D : Int) := by rw [IntKind.wrap_u64]; omega
  obtain ⟨E, hE⟩ : ∃ E, P0 + 256 * (P1 + 256 * P2) = E := ⟨_, rfl⟩
  rw [hE] at f7
  have w4 : IntKind.u64.wrap ((E : Int) + (E : Int) / 256) = (E : Int) + (E : Int) / 256 := by rw [IntKind.wrap_u64]; omega
  obtain ⟨F, hF⟩ : ∃ F, E + E / 256 = F := ⟨_, rfl⟩
  have f8 : (E : Int) + (E : Int) / 256 = (F : Int) := by omega
  have w5 : IntKind.u64.wrap ((F : Int) + (F : Int) / 65536) = (F : Int) + (F : Int) / 65536 := by rw [IntKind.wrap_u64]; omega
  obtain ⟨G, hG⟩ : ∃ G, F + F / 65536 = G := ⟨_, rfl⟩
  have f9 : (F : Int) + (F : Int) / 65536 = (G : Int) := by omega
  have k1 : E / 256 = P1 + 256 * P2 := by omega
  have k2 : F = (P0 + P1) + 256 * ((P1 + P2) + 256 * P2) := by omega
  have k3 : F / 65536 = P2 := by omega
  have k4 : G = (P0 + P1 + P2) + 256 * ((P1 + P2) + 256 * P2) := by omega
  have hGb : G < 1000000 := by omega
  have w6 := wrap_small G hGb
  have hG4 := div_small G hGb
  have f10 : bits .and .i64 (G : Int) 127 = ((P0 + P1 + P2 : Nat) : Int) := by
    have h := (bits_nat .i64 63 (by decide) (fun n h0 h1 => IntWalk.i64_in _ (by omega)) G 127 (by omega) (by decide)).1
    have e : G &&& 127 = P0 + P1 + P2 := by
      have := Nat.and_two_pow_sub_one_eq_mod G 7
      rw [show (2 : Nat) ^ 7 - 1 = 127 from rfl, show (2 : Nat) ^ 7 = 128 from rfl] at this
      rw [this, k4]
      omega
    rw [e] at h
    exact h
  clear s_1 s_2 s_3 hA hB hA2 hB2 hF hG hE k1 k2 k3 k4
  go_enter Try.func87, Try.ntmps87
  go_wp2
  go_ret
  exact ⟨by simp, rfl⟩
theorem onesCount_any (x : Nat) (w : World) (hx : x < 1048576) :
    Calls Try.prog 69 #[.int .u64 (x : Int)] w fun e w' => e = .returned (.int .i64 (dgF 20 x : Nat)) ∧ w' = w := by
  have H := Lib.hid (ones_any x w hx)
  go_enter Try.func69, Try.ntmps69
  go_wp2_with (go_at_call 87; refine H.out.mono ?_; rintro e w' ⟨rfl, rfl⟩)
  go_ret
  exact ⟨rfl, rfl⟩

theorem dgF_zero : ∀ f, dgF f 0 = 0
  | 0 => rfl
  | f + 1 => by rw [dgF_succ, Nat.zero_div, dgF_zero f]
theorem dgF_le : ∀ f n, dgF f n ≤ f
  | 0, _ => Nat.le_refl _
  | f + 1, n => by rw [dgF_succ]; have := dgF_le f (n / 2); omega
def dgN (n : Int) : Int := if isNum n then (dgF 20 n.toNat : Nat) else 0
theorem dgN_true {n : Int} (h : isNum n = true) : dgN n = (dgF 20 n.toNat : Nat) := by unfold dgN; rw [if_pos h]
theorem dgN_false {n : Int} (h : isNum n = false) : dgN n = 0 := by unfold dgN; rw [h]; rfl

end Go.Proofs.Ytppahohakiidmaa
/- Binary digits, and the bounds that they give. -/
namespace Go.Proofs.Ytppahohakiidmaa
open Go.RowKit

def bitsF : Nat → Nat → List Int
  | 0, _ => []
  | f + 1, n => if n = 0 then [] else bitsF f (n / 2) ++ [((n % 2 : Nat) : Int)]
theorem bitsF_zero : ∀ f, bitsF f 0 = []
  | 0 => rfl
  | _ + 1 => rfl
theorem bitsF_succ {f n : Nat} (h : 0 < n) : bitsF (f + 1) n = bitsF f (n / 2) ++ [((n % 2 : Nat) : Int)] := if_neg (by omega)
theorem bitsF_len : ∀ f n, (bitsF f n).length ≤ f
  | 0, _ => Nat.le_refl _
  | f + 1, n => by
    unfold bitsF
    split
    · simp
    · rw [List.length_append, List.length_singleton]
      have := bitsF_len f (n / 2)
      omega
theorem bits_facts : ∀ n : Fin 101, (bitsF 7 n.val).length = Lib.bitLen n.val ∧ (bitsF 7 n.val).foldl (· + ·) 0 = ((dgF 20 n.val : Nat) : Int) ∧ (1 ≤ n.val → 1 ≤ dgF 20 n.val ∧ dgF 20 n.val ≤ 7 ∧ 1 ≤ Lib.bitLen n.val ∧ Lib.bitLen n.val ≤ 7) := by decide +kernel
theorem least_facts : ∀ o : Fin 8, Lib.bitLen (o.val - 1) ≤ 3 ∧ (o.val ≤ 2 ^ Lib.bitLen (o.val - 1)) ∧ ∀ b : Fin 4, b.val < Lib.bitLen (o.val - 1) → 2 ^ b.val < o.val := by decide +kernel
theorem bits_digits (n : Nat) (h : n ≤ 100) : ∀ x ∈ bitsF 7 n, 0 ≤ x ∧ x ≤ 1 := by
  have : ∀ n : Fin 101, ∀ x ∈ bitsF 7 n.val, 0 ≤ x ∧ x ≤ 1 := by decide +kernel
  exact this ⟨n, by omega⟩

set_option maxRecDepth 100000 in
set_option maxHeartbeats 2000000 in
theorem shBits_any (N : Nat) (w : World) (hN : N ≤ 100) :
    Calls Try.prog 68 #[.int .i64 (N : Int)] w fun e w' => ∃ A' c', e = .returned (.slice A' (bitsF 7 N).length c') ∧ OwI w' w.heap.size (.slice A' (bitsF 7 N).length c') (bitsF 7 N) ∧ Below w.heap.size w w' := by
  obtain ⟨T, hT⟩ : ∃ T, bitsF 7 N = T := ⟨_, rfl⟩
  rw [hT]
  have HT := Lib.hid hT
  clear hT
  go_enter Try.func68, Try.ntmps68
  go_wp2
  go_loopw [0, 3] (fun nv ov wr => ∃ (m f k : Nat) (l : List Int) (A1 : Option Addr) (c1 : Nat), nv = .int .i64 (m : Int) ∧ ov = .slice A1 k c1 ∧ k = l.length ∧ l.length + f = 7 ∧ m < 2 ^ f ∧ bitsF f m ++ l = T ∧ OwI wr w.heap.size (.slice A1 k c1) l ∧ Below w.heap.size w wr) (fun nv _ _ => (intOf nv).toNat)
  case atStart => exact ⟨N, 7, 0, [], none, 0, rfl, rfl, rfl, rfl, by omega, by rw [List.append_nil]; exact HT.out, OwI.nil _ _, Below.refl _ _⟩
  case round =>
    obtain ⟨m, f, k, l, A1, c1, rfl, rfl, hk, hf, hm, hs, hown, hbel⟩ := hrel
    have HS := Lib.hid hs
    have OWN := Lib.hid hown
    have BEL := Lib.hid hbel
    have HK := Lib.hid hk
    have hs1 : w.heap.size ≤ wr.heap.size := hbel.size
    have hm7 : m < 128 := Nat.lt_of_lt_of_le hm (Nat.pow_le_pow_right (n := 2) (by decide) (show f ≤ 7 by omega))
    clear hs hown hbel hk
    by_cases h0 : 0 < m
    · have i0 : (0 : Int) < (m : Int) := by omega
      obtain ⟨g, rfl⟩ : ∃ g, f = g + 1 := by
        cases f with
        | zero => simp at hm; omega
        | succ g => exact ⟨g, rfl⟩
      have hg : m / 2 < 2 ^ g := by rw [Nat.pow_succ] at hm; omega
      have HG := Lib.hid hg
      have SUM := Lib.hid (show bitsF g (m / 2) ++ (((m % 2 : Nat) : Int) :: l) = T by rw [← HS.out, bitsF_succ h0, List.append_assoc]; rfl)
      have hk7 : k ≤ 7 := by rw [HK.out]; omega
      clear hg hm
      go_wp2_with (at_builtin; refine list_step (fun K hK => ?_); refine step_appM Try.underlying22 info_int rfl (by omega) (by omega) rfl (.tmp 10) (.tmp 11) rfl w.heap.size 1 _ [I ((m % 2 : Nat) : Int)] rfl (show World.ownsRow _ _ _ _ _ _ _ from own_one ((m % 2 : Nat) : Int) (by omega)) A1 k c1 (l.map I) rfl (show Rd _ _ 1 A1 k _ from by have h := (OWN.out.alloc (.cells #[.int .i64 ((m % 2 : Nat) : Int)] 3)); exact Rd.of_own (by have h2 := h; unfold OwI at h2; rw [← HK.out] at h2; exact h2)) (ints_one _) (by omega) (by simp; omega) ?_; intro A2 c2 w2 hown2 hg2 hbel2; go_simp; refine hK _ _ ?_; clear hK K)
      go_roundw
      case rel =>
        refine ⟨m / 2, g, 1 + k, ((m % 2 : Nat) : Int) :: l, A2, c2, by go_num, rfl, by rw [HK.out, List.length_cons]; omega, by rw [List.length_cons]; omega, HG.out, SUM.out, ?_, (BEL.out.alloc hs1 _).trans hbel2⟩
        unfold OwI
        rw [List.length_cons, show l.length + 1 = 1 + k by rw [HK.out]; omega]
        exact hown2
      case measure => simp [intOf]; omega
    · have e0 : m = 0 := by omega
      subst e0
      have hT : l = T := by rw [← HS.out, bitsF_zero]; rfl
      subst hT
      have hk' := HK.out
      subst hk'
      go_wp2
      go_ret
      exact ⟨A1, c1, rfl, OWN.out, BEL.out⟩

set_option maxRecDepth 100000 in
set_option maxHeartbeats 2000000 in
theorem shOnes_any (N : Nat) (w : World) (hN : N ≤ 100) :
    Calls Try.prog 67 #[.int .i64 (N : Int)] w fun e w' => e = .returned (.int .i64 (dgF 20 N : Nat)) ∧ Below w.heap.size w w' := by
  have hB := shBits_any N w hN
  have hsum := (bits_facts ⟨N, by omega⟩).2.1
  have hdig := bits_digits N hN
  have hlen := bitsF_len 7 N
  simp only [] at hsum
  obtain ⟨l, hl⟩ : ∃ l, bitsF 7 N = l := ⟨_, rfl⟩
  rw [hl] at hB hsum hdig hlen
  have HB := Lib.hid hB
  have HS := Lib.hid hsum
  have HD := Lib.hid hdig
  clear hB hsum hdig hl
  go_enter Try.func67, Try.ntmps67
  go_wp2_with (go_at_call 68; refine HB.out.mono ?_; rintro e w2 ⟨A', c', rfl, hown, hb2⟩)
  have OWN := Lib.hid hown
  have HB2 := Lib.hid hb2
  have hs2 : w.heap.size ≤ w2.heap.size := hb2.size
  clear hown hb2
  go_loopw [3, 9] (fun sv iv wr => ∃ (k : Nat) (s : Int), k ≤ l.length ∧ iv = .int .i64 (k : Int) ∧ sv = .int .i64 s ∧ (l.take k).foldl (· + ·) 0 = s ∧ 0 ≤ s ∧ s ≤ (k : Int) ∧ wr = w2) (fun _ iv _ => l.length - (intOf iv).toNat)
  case atStart => exact ⟨0, 0, by omega, rfl, rfl, rfl, by omega, by omega, rfl⟩
  case round =>
    obtain ⟨k, s, hk, rfl, rfl, hs, h0, h1, hwr⟩ := hrel
    subst hwr
    have SS := Lib.hid hs
    clear hs
    by_cases hlt : k < l.length
    · obtain ⟨g, off, rfl, hg, hc⟩ := OWN.out.rd.int hlt
      have hd := HD.out _ (List.getElem_mem hlt)
      obtain ⟨x, hx⟩ : ∃ x, l[k] = x := ⟨_, rfl⟩
      rw [hx] at hd hc
      have NX := Lib.hid (show (l.take (k + 1)).foldl (· + ·) 0 = s + x by rw [List.take_succ_eq_append_getElem hlt, List.foldl_append, SS.out, hx]; rfl)
      clear hx
      have hw1 : IntKind.i64.wrap (s + x) = s + x := IntWalk.i64_in _ (by omega)
      go_wp2
      go_roundw
      case rel => exact ⟨k + 1, s + x, by omega, by go_num, rfl, NX.out, by omega, by omega, by first | rfl | trivial⟩
      case measure => simp [intOf]; omega
    · have e : k = l.length := by omega
      subst e
      have E := Lib.hid (show s = ((dgF 20 N : Nat) : Int) by rw [← HS.out, ← SS.out, List.take_of_length_le (Nat.le_refl _)])
      go_wp2
      go_ret
      exact ⟨by rw [E.out]; rfl, HB2.out⟩

def isSh (n : Int) : Bool := inB n 1 100
theorem isSh_rng {n : Int} (h : isSh n = true) : 1 ≤ n ∧ n ≤ 100 := by
  unfold isSh inB at h
  simpa using h
theorem shNumber_any (n : Int) (w : World) : Calls Try.prog 49 #[.int .i64 n] w fun e w' => e = .returned (.bool (isSh n)) ∧ w = w' := by
  go_enter Try.func49, Try.ntmps49
  go_wp2_with (go_at_call 61; refine (l1In_any _ _ _ _).mono ?_; rintro e w' ⟨rfl, rfl⟩)
  go_ret
  exact ⟨rfl, rfl⟩
theorem isShort_any (n : Int) (w : World) : Calls Try.prog 53 #[.int .i64 n] w fun e w' => e = .returned (.bool (isSh n)) ∧ w = w' := by
  by_cases h1 : 1 ≤ n <;> by_cases h2 : n ≤ 100
  all_goals
    go_enter Try.func53, Try.ntmps53
    go_wp2
    go_ret
    exact ⟨ret_bool (by simp [isSh, inB, h1, h2]), rfl⟩

/-- The bounds. -/
def loN (n : Int) : Int := if isSh n then (Lib.bitLen n.toNat : Nat) - 1 + (Lib.bitLen (dgF 20 n.toNat - 1) : Nat) else 0
def hiN (n : Int) : Int := if isSh n then (Lib.bitLen n.toNat : Nat) + (dgF 20 n.toNat : Nat) - 2 else 0
theorem loN_true {n : Int} (h : isSh n = true) : loN n = (Lib.bitLen n.toNat : Nat) - 1 + (Lib.bitLen (dgF 20 n.toNat - 1) : Nat) := by unfold loN; rw [if_pos h]
theorem loN_false {n : Int} (h : isSh n = false) : loN n = 0 := by unfold loN; rw [h]; rfl
theorem hiN_true {n : Int} (h : isSh n = true) : hiN n = (Lib.bitLen n.toNat : Nat) + (dgF 20 n.toNat : Nat) - 2 := by unfold hiN; rw [if_pos h]
theorem hiN_false {n : Int} (h : isSh n = false) : hiN n = 0 := by unfold hiN; rw [h]; rfl

set_option maxRecDepth 100000 in
set_option maxHeartbeats 2000000 in
theorem specLo_any (n : Int) (w : World) : Calls Try.prog 38 #[.int .i64 n] w fun e w' => e = .returned (.tuple #[.int .i64 (loN n), .bool (isSh n)]) ∧ Below w.heap.size w w' := by
  have hN := shNumber_any n w
  cases hq : isSh n with
  | false =>
    rw [hq] at hN
    have HN := Lib.hid hN
    have Q := Lib.hid (loN_false hq)
    clear hN hq
    go_enter Try.func38, Try.ntmps38
    go_wp2_with (go_at_call 49; refine HN.out.mono ?_; rintro e w' ⟨rfl, rfl⟩)
    go_ret2
    exact ⟨by rw [Q.out]; rfl, Below.refl _ _⟩
  | true =>
    rw [hq] at hN
    have HN := Lib.hid hN
    have hr := isSh_rng hq
    obtain ⟨N, rfl⟩ : ∃ N : Nat, n = N := ⟨n.toNat, by omega⟩
    obtain ⟨f1, _, f3⟩ := bits_facts ⟨N, by omega⟩
    simp only [] at f1 f3
    obtain ⟨o1, o7, b1, b7⟩ := f3 (by omega)
    have hO := fun W => shOnes_any N W (by omega)
    have hBt := fun W => shBits_any N W (by omega)
    obtain ⟨g1, g2, g3⟩ := least_facts ⟨dgF 20 N, by omega⟩
    have hQ := loN_true hq
    rw [Int.toNat_natCast] at hQ
    simp only [] at g1 g2 g3
    rw [f1] at hBt
    obtain ⟨L, hL⟩ : ∃ L, Lib.bitLen N = L := ⟨_, rfl⟩
    obtain ⟨O, hOO⟩ : ∃ O, dgF 20 N = O := ⟨_, rfl⟩
    rw [hL] at hQ b1 b7 hBt
    rw [hOO] at hQ g1 g2 g3 o1 o7 hO
    obtain ⟨V, hV⟩ : ∃ V, Lib.bitLen (O - 1) = V := ⟨_, rfl⟩
    rw [hV] at hQ g1 g2 g3
    have HO := Lib.hid hO
    have HBt := Lib.hid hBt
    have Q := Lib.hid hQ
    have G2 := Lib.hid g2
    have G3 := Lib.hid g3
    clear hN hq hO hBt hQ g2 g3 f1 f3 hL hOO hV
    go_enter Try.func38, Try.ntmps38
    go_wp2_with (go_at_call 49; refine HN.out.mono ?_; rintro e w' ⟨rfl, rfl⟩)
    go_loopw [4] (fun iv wr => ∃ b : Nat, b ≤ V ∧ iv = .int .i64 (b : Int) ∧ Below w.heap.size w wr) (fun iv _ => V - (intOf iv).toNat)
    case atStart => exact ⟨0, by omega, rfl, Below.refl _ _⟩
    case round =>
      obtain ⟨b, hb, rfl, hbel⟩ := hrel
      have BEL := Lib.hid hbel
      have hs1 : w.heap.size ≤ wr.heap.size := hbel.size
      clear hbel
      obtain ⟨P, hP⟩ : ∃ P : Nat, 2 ^ b = P := ⟨_, rfl⟩
      have hP8 : P ≤ 8 := by rw [← hP]; exact Nat.pow_le_pow_right (n := 2) (by decide) (show b ≤ 3 by omega)
      have hPI : (2 : Int) ^ b = (P : Int) := by rw [← hP]; push_cast; rfl
      have hPW : IntKind.i64.wrap (2 ^ b) = (P : Int) := by rw [hPI]; exact IntWalk.i64_in _ (by omega)
      have HPW := Lib.hid hPW
      by_cases hlt : b < V
      · have hp : (P : Int) < (O : Int) := by
          have := G3.out ⟨b, by omega⟩ hlt
          simp only [hP] at this
          omega
        clear hP hPI
        go_wp2
        refine wp_region_Tw [0, 1, 2, 4] [] (.lp 0 (.lp 1 (.lp 2 (.hv 3 (.lp 4 (.done)))))) (by kernel_rfl) (by kernel_rfl) ?_
        (repeat (first | (refine T_lp rfl (fun K hK => ?_); go_simp; refine hK _ ?_; clear hK K) | (refine T_ls rfl rfl (fun K hK => ?_); go_simp; refine hK _ ?_; clear hK K)))
        (refine T_hv rfl (by kernel_rfl) (fun K hK => ?_); go_simp)
        go_at_call 67
        refine (HO.out wr.drew).mono ?_
        rintro e w2 ⟨rfl, hb2⟩
        have HB2 := Lib.hid (BEL.out.drew.trans (hb2.mono (by simp; omega)))
        clear hb2
        (go_simp; refine hK _ _ ?_; clear hK K)
        (repeat (first | (refine T_lp rfl (fun K hK => ?_); go_simp; refine hK _ ?_; clear hK K) | (refine T_ls rfl rfl (fun K hK => ?_); go_simp; refine hK _ ?_; clear hK K)))
        refine T_done ?_
        go_wp2
        go_roundw
        case rel => exact ⟨b + 1, by omega, by go_num, HB2.out⟩
        case measure => simp [intOf]; omega
      · have e : b = V := by omega
        subst e
        have hp : ¬ (P : Int) < (O : Int) := by
          have := G2.out
          rw [hP] at this
          omega
        have hP2 : (O : Int) ≤ (P : Int) := by omega
        clear hP hPI
        go_wp2
        refine wp_region_Tw [0, 1, 2, 4] [] (.lp 0 (.lp 1 (.lp 2 (.hv 3 (.lp 4 (.done)))))) (by kernel_rfl) (by kernel_rfl) ?_
        (repeat (first | (refine T_lp rfl (fun K hK => ?_); go_simp; refine hK _ ?_; clear hK K) | (refine T_ls rfl rfl (fun K hK => ?_); go_simp; refine hK _ ?_; clear hK K)))
        (refine T_hv rfl (by kernel_rfl) (fun K hK => ?_); go_simp)
        go_at_call 67
        refine (HO.out wr.drew).mono ?_
        rintro e w2 ⟨rfl, hb2⟩
        have HB2 := Lib.hid (BEL.out.drew.trans (hb2.mono (by simp; omega)))
        have hs2 : w.heap.size ≤ w2.heap.size := by have := hb2.size; simp at this; omega
        clear hb2
        (go_simp; refine hK _ _ ?_; clear hK K)
        (repeat (first | (refine T_lp rfl (fun K hK => ?_); go_simp; refine hK _ ?_; clear hK K) | (refine T_ls rfl rfl (fun K hK => ?_); go_simp; refine hK _ ?_; clear hK K)))
        refine T_done ?_
        have w1 : IntKind.i64.wrap ((L : Int) - 1) = (L : Int) - 1 := IntWalk.i64_in _ (by omega)
        have w2' : IntKind.i64.wrap ((L : Int) - 1 + (b : Int)) = (L : Int) - 1 + (b : Int) := IntWalk.i64_in _ (by omega)
        go_wp2_with (go_at_call 68; refine (HBt.out w2).mono ?_; rintro e w3 ⟨A', c', rfl, _, hb3⟩)
        go_ret2
        exact ⟨by rw [Q.out]; rfl, HB2.out.trans (hb3.mono hs2)⟩

set_option maxRecDepth 100000 in
set_option maxHeartbeats 2000000 in
theorem specHi_any (n : Int) (w : World) : Calls Try.prog 40 #[.int .i64 n] w fun e w' => e = .returned (.tuple #[.int .i64 (hiN n), .bool (isSh n)]) ∧ Below w.heap.size w w' := by
  have hN := shNumber_any n w
  cases hq : isSh n with
  | false =>
    rw [hq] at hN
    have HN := Lib.hid hN
    have Q := Lib.hid (hiN_false hq)
    clear hN hq
    go_enter Try.func40, Try.ntmps40
    go_wp2_with (go_at_call 49; refine HN.out.mono ?_; rintro e w' ⟨rfl, rfl⟩)
    go_ret2
    exact ⟨by rw [Q.out]; rfl, Below.refl _ _⟩
  | true =>
    rw [hq] at hN
    have HN := Lib.hid hN
    have hr := isSh_rng hq
    obtain ⟨N, rfl⟩ : ∃ N : Nat, n = N := ⟨n.toNat, by omega⟩
    obtain ⟨f1, _, f3⟩ := bits_facts ⟨N, by omega⟩
    simp only [] at f1 f3
    obtain ⟨o1, o7, b1, b7⟩ := f3 (by omega)
    have hO := fun W => shOnes_any N W (by omega)
    have hBt := fun W => shBits_any N W (by omega)
    have hQ := hiN_true hq
    rw [Int.toNat_natCast] at hQ
    rw [f1] at hBt
    obtain ⟨L, hL⟩ : ∃ L, Lib.bitLen N = L := ⟨_, rfl⟩
    obtain ⟨O, hOO⟩ : ∃ O, dgF 20 N = O := ⟨_, rfl⟩
    rw [hL] at hQ b1 b7 hBt
    rw [hOO] at hQ o1 o7 hO
    have HO := Lib.hid hO
    have HBt := Lib.hid hBt
    have Q := Lib.hid hQ
    clear hN hq hO hBt hQ f1 f3 hL hOO
    have w1 : IntKind.i64.wrap ((L : Int) + (O : Int)) = (L : Int) + (O : Int) := IntWalk.i64_in _ (by omega)
    have w2' : IntKind.i64.wrap ((L : Int) + (O : Int) - 2) = (L : Int) + (O : Int) - 2 := IntWalk.i64_in _ (by omega)
    go_enter Try.func40, Try.ntmps40
    go_wp2_with (first
      | (go_at_call 49; refine HN.out.mono ?_; rintro e w' ⟨rfl, rfl⟩)
      | (go_at_call 68; refine (HBt.out w).mono ?_; rintro e w3 ⟨A', c', rfl, _, hb3⟩)
      | (go_at_call 67; refine (HO.out w3).mono ?_; rintro e w4 ⟨rfl, hb4⟩))
    go_ret2
    exact ⟨by rw [Q.out]; rfl, hb3.trans (hb4.mono hb3.size)⟩

set_option maxRecDepth 100000 in
set_option maxHeartbeats 2000000 in
theorem implLo_any (n : Int) (w : World) : Calls Try.prog 39 #[.int .i64 n] w fun e w' => e = .returned (.tuple #[.int .i64 (loN n), .bool (isSh n)]) ∧ Below w.heap.size w w' := by
  have hN := isShort_any n w
  cases hq : isSh n with
  | false =>
    rw [hq] at hN
    have HN := Lib.hid hN
    have Q := Lib.hid (loN_false hq)
    clear hN hq
    go_enter Try.func39, Try.ntmps39
    go_wp2_with (go_at_call 53; refine HN.out.mono ?_; rintro e w' ⟨rfl, rfl⟩)
    go_ret2
    exact ⟨by rw [Q.out]; rfl, Below.refl _ _⟩
  | true =>
    rw [hq] at hN
    have HN := Lib.hid hN
    have hr := isSh_rng hq
    obtain ⟨N, rfl⟩ : ∃ N : Nat, n = N := ⟨n.toNat, by omega⟩
    obtain ⟨_, _, f3⟩ := bits_facts ⟨N, by omega⟩
    simp only [] at f3
    obtain ⟨o1, o7, b1, b7⟩ := f3 (by omega)
    obtain ⟨g1, _, _⟩ := least_facts ⟨dgF 20 N, by omega⟩
    have hQ := loN_true hq
    rw [Int.toNat_natCast] at hQ
    simp only [] at g1
    have hO := onesCount_any N w (by omega)
    have hB1 := bitsLen_any (N : Int) w (by omega) (by omega)
    have hB2 := bitsLen_any ((dgF 20 N - 1 : Nat) : Int) w (by omega) (by omega)
    rw [Int.toNat_natCast] at hB1 hB2
    obtain ⟨L, hL⟩ : ∃ L, Lib.bitLen N = L := ⟨_, rfl⟩
    obtain ⟨O, hOO⟩ : ∃ O, dgF 20 N = O + 1 := ⟨dgF 20 N - 1, by omega⟩
    rw [hL] at hQ b1 b7 hB1
    rw [hOO] at hQ g1 o1 o7 hO hB2
    rw [Nat.add_sub_cancel] at hQ g1 hB2
    obtain ⟨V, hV⟩ : ∃ V, Lib.bitLen O = V := ⟨_, rfl⟩
    rw [hV] at hQ g1 hB2
    have HO := Lib.hid hO
    have HB1 := Lib.hid hB1
    have HB2 := Lib.hid hB2
    have Q := Lib.hid hQ
    clear hN hq hO hB1 hB2 hQ f3 hL hOO hV
    have w1 : IntKind.i64.wrap ((L : Int) - 1) = (L : Int) - 1 := IntWalk.i64_in _ (by omega)
    have w2' : IntKind.i64.wrap ((L : Int) - 1 + (V : Int)) = (L : Int) - 1 + (V : Int) := IntWalk.i64_in _ (by omega)
    have w3' : IntKind.i64.wrap (O : Int) = (O : Int) := IntWalk.i64_in _ (by omega)
    have u1 : IntKind.u64.wrap (N : Int) = (N : Int) := by rw [IntKind.wrap_u64]; omega
    have u2 : IntKind.u64.wrap (O : Int) = (O : Int) := by rw [IntKind.wrap_u64]; omega
    go_enter Try.func39, Try.ntmps39
    go_wp2_with (first
      | (go_at_call 53; refine HN.out.mono ?_; rintro e w' ⟨rfl, rfl⟩)
      | (go_at_call 69; refine HO.out.mono ?_; rintro e w' ⟨rfl, rfl⟩)
      | (go_at_call 70; refine HB1.out.mono ?_; rintro e w' ⟨rfl, rfl⟩)
      | (go_at_call 70; refine HB2.out.mono ?_; rintro e w' ⟨rfl, rfl⟩))
    go_ret2
    exact ⟨by rw [Q.out]; rfl, Below.refl _ _⟩

set_option maxRecDepth 100000 in
set_option maxHeartbeats 2000000 in
theorem implHi_any (n : Int) (w : World) : Calls Try.prog 41 #[.int .i64 n] w fun e w' => e = .returned (.tuple #[.int .i64 (hiN n), .bool (isSh n)]) ∧ Below w.heap.size w w' := by
  have hN := isShort_any n w
  cases hq : isSh n with
  | false =>
    rw [hq] at hN
    have HN := Lib.hid hN
    have Q := Lib.hid (hiN_false hq)
    clear hN hq
    go_enter Try.func41, Try.ntmps41
    go_wp2_with (go_at_call 53; refine HN.out.mono ?_; rintro e w' ⟨rfl, rfl⟩)
    go_ret2
    exact ⟨by rw [Q.out]; rfl, Below.refl _ _⟩
  | true =>
    rw [hq] at hN
    have HN := Lib.hid hN
    have hr := isSh_rng hq
    obtain ⟨N, rfl⟩ : ∃ N : Nat, n = N := ⟨n.toNat, by omega⟩
    obtain ⟨_, _, f3⟩ := bits_facts ⟨N, by omega⟩
    simp only [] at f3
    obtain ⟨o1, o7, b1, b7⟩ := f3 (by omega)
    have hQ := hiN_true hq
    rw [Int.toNat_natCast] at hQ
    have hO := onesCount_any N w (by omega)
    have hB1 := bitsLen_any (N : Int) w (by omega) (by omega)
    rw [Int.toNat_natCast] at hB1
    obtain ⟨L, hL⟩ : ∃ L, Lib.bitLen N = L := ⟨_, rfl⟩
    obtain ⟨O, hOO⟩ : ∃ O, dgF 20 N = O := ⟨_, rfl⟩
    rw [hL] at hQ b1 b7 hB1
    rw [hOO] at hQ o1 o7 hO
    have HO := Lib.hid hO
    have HB1 := Lib.hid hB1
    have Q := Lib.hid hQ
    clear hN hq hO hB1 hQ f3 hL hOO
    have w1 : IntKind.i64.wrap ((L : Int) + (O : Int)) = (L : Int) + (O : Int) := IntWalk.i64_in _ (by omega)
    have w2' : IntKind.i64.wrap ((L : Int) + (O : Int) - 2) = (L : Int) + (O : Int) - 2 := IntWalk.i64_in _ (by omega)
    have u1 : IntKind.u64.wrap (N : Int) = (N : Int) := by rw [IntKind.wrap_u64]; omega
    go_enter Try.func41, Try.ntmps41
    go_wp2_with (first
      | (go_at_call 53; refine HN.out.mono ?_; rintro e w' ⟨rfl, rfl⟩)
      | (go_at_call 69; refine HO.out.mono ?_; rintro e w' ⟨rfl, rfl⟩)
      | (go_at_call 70; refine HB1.out.mono ?_; rintro e w' ⟨rfl, rfl⟩))
    go_ret2
    exact ⟨by rw [Q.out]; rfl, Below.refl _ _⟩
end Go.Proofs.Ytppahohakiidmaa
/- FirstStar, ShortestStar, StarLength, AllShortest: both sides. -/
namespace Go.Proofs.Ytppahohakiidmaa
open Go.RowKit

def isCt (y : Int) : Bool := inB y 0 8
theorem isCt_rng {n : Int} (h : isCt n = true) : 0 ≤ n ∧ n ≤ 8 := by
  unfold isCt inB at h
  simpa using h
theorem shCounted_any (n : Int) (w : World) : Calls Try.prog 51 #[.int .i64 n] w fun e w' => e = .returned (.bool (isCt n)) ∧ w = w' := by
  go_enter Try.func51, Try.ntmps51
  go_wp2_with (go_at_call 61; refine (l1In_any _ _ _ _).mono ?_; rintro e w' ⟨rfl, rfl⟩)
  go_ret
  exact ⟨rfl, rfl⟩
theorem isCounted_any (n : Int) (w : World) : Calls Try.prog 54 #[.int .i64 n] w fun e w' => e = .returned (.bool (isCt n)) ∧ w = w' := by
  by_cases h1 : 0 ≤ n <;> by_cases h2 : n ≤ 8
  all_goals
    go_enter Try.func54, Try.ntmps54
    go_wp2
    go_ret
    exact ⟨ret_bool (by simp [isCt, inB, h1, h2]), rfl⟩

theorem firsts_rows {n L most : Nat} : ∀ l ∈ firstsN n L most, l.length = L + 1 := by
  intro l hl
  unfold firstsN at hl
  split at hl
  · have := List.mem_of_mem_take hl
    unfold leafs at this
    have := (List.mem_filter.1 this).2
    simpa using this
  · exact absurd hl (by simp)
theorem getD0_len {Z : List (List Nat)} {N : Nat} (h : ∀ l ∈ Z, l.length = N) (hz : Z ≠ []) : (cs (Z.getD 0 [])).length = N := by
  cases Z with
  | nil => exact absurd rfl hz
  | cons z Z => rw [cs_len]; exact h z (by simp)
/-- The first row. -/
theorem OwL.row0 {w : World} {B : Nat} {A : Option Addr} {c N R : Nat} {f : Nat → Option Addr × Nat} {r : Nat → List Int} (h : OwL w B A c f N R r) (hR : 0 < R) :
    ∃ g A' c', A = some ⟨g, 0, none⟩ ∧ w.cell? ⟨g, 0, none⟩ = some (.slice A' N c') ∧ OwI w B (.slice A' N c') (r 0) ∧ (r 0).length = N := by
  obtain ⟨g, rfl, _, _, hc, _, hl⟩ := h.at_ hR
  refine ⟨g, (f 0).1, (f 0).2, rfl, hc, ?_, hl⟩
  have := h.2 0 hR
  unfold OwI
  rw [hl]
  exact this

theorem search1_any (n L most : Nat) (W : World) (A : Option Addr) (cc : Nat) (hn1 : 1 ≤ n) (hn : n ≤ 100) (hL : L ≤ 9) (hm1 : 1 ≤ most) (hm : most ≤ 300) (hr : Rd W W.heap.size 1 A 1 (([1] : List Int).map I)) :
    Calls Try.prog 52 #[.slice A 1 cc, .int .i64 (n : Int), .int .i64 (L : Int), .int .i64 (most : Int)] W fun e w' => ∃ A' c' f, e = .returned (.slice A' (firstsN n L most).length c') ∧ OwL w' W.heap.size A' c' f (L + 1) (firstsN n L most).length (fun i => cs ((firstsN n L most).getD i [])) ∧ Below W.heap.size W w' := by
  have h := shSearch_any n hn L (L + 1) most 1 [1] W.heap.size A cc W rfl (Nat.le_refl _) (by omega) (by omega) hm1 hm (fun i hi => by
    have : i = 0 := by omega
    subst this
    show (1 : Nat) ≤ 100
    omega) (Nat.le_refl _) hr
  rw [shS_first hn1 hm1] at h
  exact h

set_option maxRecDepth 100000 in
set_option maxHeartbeats 2000000 in
theorem shLength_any (n : Nat) (w : World) (hn1 : 1 ≤ n) (hn : n ≤ 100) : Calls Try.prog 50 #[.int .i64 (n : Int)] w fun e w' => e = .returned (.int .i64 (lenN n : Int)) ∧ Below w.heap.size w w' := by
  obtain ⟨k9, kne, kem⟩ := lenN_spec hn1 hn
  have hS := fun L (hL : L ≤ 9) (W : World) A cc hr => search1_any n L 1 W A cc hn1 hn hL (Nat.le_refl _) (by omega) hr
  obtain ⟨K, hK⟩ : ∃ K, lenN n = K := ⟨_, rfl⟩
  rw [hK] at k9 kne kem ⊢
  have HS := Lib.hid hS
  have KE := Lib.hid kem
  have KN := Lib.hid (show 1 ≤ (firstsN n K 1).length from List.length_pos_iff.2 kne)
  clear hS kem kne hK
  go_enter Try.func50, Try.ntmps50
  go_wp2
  go_loopw [3] (fun kv wr => ∃ k : Nat, k ≤ K ∧ kv = .int .i64 (k : Int) ∧ Below w.heap.size w wr) (fun kv _ => K - (intOf kv).toNat)
  case atStart => exact ⟨0, by omega, rfl, Below.refl _ _⟩
  case round =>
    obtain ⟨k, hk, rfl, hbel⟩ := hrel
    have BEL := Lib.hid hbel
    have hs := hbel.size
    clear hbel
    have HC := Lib.hid (HS.out k (by omega) (wr.alloc (.cells #[.int .i64 1] 3)) (some ⟨wr.heap.size, 0, none⟩) 1 (own_one (w := wr) (B := 0) 1 (by omega)).rd)
    by_cases hlt : k < K
    · have e := KE.out k hlt
      rw [e] at HC
      go_wp2_with (go_at_call 52; refine HC.out.mono ?_; rintro e w2 ⟨A2, c2, f2, rfl, hown2, hb2⟩)
      go_roundw
      case rel => exact ⟨k + 1, by omega, by go_num, (BEL.out.alloc hs _).trans (hb2.mono (by simp; omega))⟩
      case measure => simp [intOf]; omega
    · have e : k = K := by omega
      subst e
      obtain ⟨R, hR⟩ : ∃ R, (firstsN n k 1).length = R := ⟨_, rfl⟩
      have hR1 := KN.out
      rw [hR] at hR1 HC
      have iR : (0 : Int) < (R : Int) := by omega
      clear hR
      go_wp2_with (go_at_call 52; refine HC.out.mono ?_; rintro e w2 ⟨A2, c2, f2, rfl, hown2, hb2⟩)
      go_ret
      exact ⟨rfl, (BEL.out.alloc hs _).trans (hb2.mono (by simp; omega))⟩

/- FirstStar -/
def fsV (x y : Int) : List (List Nat) := if isSh x && isCt y then firstsN x.toNat y.toNat 1 else []
def fsL (x y : Int) : List Int := cs ((fsV x y).getD 0 [])
def fsG (x y : Int) : Bool := !(fsV x y).isEmpty
theorem fsV_yes {x y : Int} (h1 : isSh x = true) (h2 : isCt y = true) : fsV x y = firstsN x.toNat y.toNat 1 := by unfold fsV; rw [h1, h2]; rfl
theorem fsV_no1 {x : Int} (y : Int) (h1 : isSh x = false) : fsV x y = [] := by unfold fsV; rw [h1]; rfl
theorem fsV_no2 (x : Int) {y : Int} (h1 : isCt y = false) : fsV x y = [] := by unfold fsV; rw [h1, Bool.and_false]; rfl
theorem fsL_nil {x y : Int} (h : fsV x y = []) : fsL x y = [] := by unfold fsL; rw [h]; rfl
theorem fsG_nil {x y : Int} (h : fsV x y = []) : fsG x y = false := by unfold fsG; rw [h]; rfl
theorem fsL_le (x y : Int) : (fsL x y).length ≤ 1000 := by
  by_cases hz : fsV x y = []
  · rw [fsL_nil hz]; simp
  · cases h1 : isSh x with
    | false => exact absurd (fsV_no1 y h1) hz
    | true =>
      cases h2 : isCt y with
      | false => exact absurd (fsV_no2 x h2) hz
      | true =>
        have hr := isCt_rng h2
        unfold fsL
        rw [fsV_yes h1 h2] at hz ⊢
        rw [getD0_len firsts_rows hz]
        omega

set_option maxRecDepth 100000 in
set_option maxHeartbeats 2000000 in
theorem specFirst_any (x y : Int) (w : World) : Calls Try.prog 21 #[.int .i64 x, .int .i64 y] w fun e w' => ∃ A' c', e = .returned (.tuple #[.slice A' (fsL x y).length c', .bool (fsG x y)]) ∧ OwI w' w.heap.size (.slice A' (fsL x y).length c') (fsL x y) ∧ Below w.heap.size w w' := by
  have hN := shNumber_any x w
  have hC := shCounted_any y w
  cases h1 : isSh x with
  | false =>
    have E := Lib.hid (fsL_nil (fsV_no1 y h1))
    have G := Lib.hid (fsG_nil (fsV_no1 y h1))
    rw [h1] at hN
    have HN := Lib.hid hN
    clear hN h1 hC
    go_enter Try.func21, Try.ntmps21
    go_wp2_with (go_at_call 49; refine HN.out.mono ?_; rintro e w' ⟨rfl, rfl⟩)
    go_ret2
    exact ⟨none, 0, by rw [E.out, G.out]; rfl, by rw [E.out]; exact OwI.nil _ _, Below.refl _ _⟩
  | true =>
  cases h2 : isCt y with
  | false =>
    have E := Lib.hid (fsL_nil (fsV_no2 x h2))
    have G := Lib.hid (fsG_nil (fsV_no2 x h2))
    rw [h1] at hN
    rw [h2] at hC
    have HN := Lib.hid hN
    have HC := Lib.hid hC
    clear hN h1 hC h2
    go_enter Try.func21, Try.ntmps21
    go_wp2_with (first
      | (go_at_call 49; refine HN.out.mono ?_; rintro e w' ⟨rfl, rfl⟩)
      | (go_at_call 51; refine HC.out.mono ?_; rintro e w' ⟨rfl, rfl⟩))
    go_ret2
    exact ⟨none, 0, by rw [E.out, G.out]; rfl, by rw [E.out]; exact OwI.nil _ _, Below.refl _ _⟩
  | true =>
    have r1 := isSh_rng h1
    have r2 := isCt_rng h2
    have hV := fsV_yes h1 h2
    obtain ⟨n, rfl⟩ : ∃ n : Nat, x = n := ⟨x.toNat, by omega⟩
    obtain ⟨L, rfl⟩ : ∃ L : Nat, y = L := ⟨y.toNat, by omega⟩
    rw [Int.toNat_natCast, Int.toNat_natCast] at hV
    have hS := search1_any n L 1 (w.alloc (.cells #[.int .i64 1] 3)) (some ⟨w.heap.size, 0, none⟩) 1 (by omega) (by omega) (by omega) (Nat.le_refl _) (by omega) (own_one (w := w) (B := 0) 1 (by omega)).rd
    rw [← hV] at hS
    have hrows : ∀ l ∈ fsV (n : Int) (L : Int), l.length = L + 1 := by rw [hV]; exact firsts_rows
    rw [h1] at hN
    rw [h2] at hC
    have HN := Lib.hid hN
    have HC := Lib.hid hC
    have HS := Lib.hid hS
    by_cases hz : fsV (n : Int) (L : Int) = []
    · have E := Lib.hid (fsL_nil hz)
      have G := Lib.hid (fsG_nil hz)
      rw [hz] at HS
      clear hN h1 hC h2 hS hz hV hrows
      go_enter Try.func21, Try.ntmps21
      go_wp2_with (first
        | (go_at_call 49; refine HN.out.mono ?_; rintro e w' ⟨rfl, rfl⟩)
        | (go_at_call 51; refine HC.out.mono ?_; rintro e w' ⟨rfl, rfl⟩)
        | (go_at_call 52; refine HS.out.mono ?_; rintro e w2 ⟨A2, c2, f2, rfl, hown2, hb2⟩))
      go_ret2
      exact ⟨none, 0, by rw [E.out, G.out]; rfl, by rw [E.out]; exact OwI.nil _ _, ((Below.refl _ _).alloc (Nat.le_refl _) _).trans (hb2.mono (by simp))⟩
    · have EL := Lib.hid (show (fsL (n : Int) (L : Int)).length = L + 1 from getD0_len hrows hz)
      have G := Lib.hid (show fsG (n : Int) (L : Int) = true by
        unfold fsG
        cases hq : fsV (n : Int) (L : Int) with
        | nil => exact absurd hq hz
        | cons _ _ => rfl)
      have hR1 : 1 ≤ (fsV (n : Int) (L : Int)).length := List.length_pos_iff.2 hz
      have EV := Lib.hid (show cs ((fsV (n : Int) (L : Int)).getD 0 []) = fsL (n : Int) (L : Int) from rfl)
      obtain ⟨V, hVV⟩ : ∃ V, fsV (n : Int) (L : Int) = V := ⟨_, rfl⟩
      obtain ⟨U, hU⟩ : ∃ U, fsL (n : Int) (L : Int) = U := ⟨_, rfl⟩
      rw [hVV] at HS hR1 EV
      rw [hU] at EL EV ⊢
      have iR : ((V.length : Int) == 0) = false := by rw [beq_eq_false_iff_ne]; omega
      have iR0 : (0 : Int) < (V.length : Int) := by omega
      clear hN h1 hC h2 hS hz hV hrows hVV hU
      go_enter Try.func21, Try.ntmps21
      go_wp2_with (first
        | (go_at_call 49; refine HN.out.mono ?_; rintro e w' ⟨rfl, rfl⟩)
        | (go_at_call 51; refine HC.out.mono ?_; rintro e w' ⟨rfl, rfl⟩)
        | (go_at_call 52; refine HS.out.mono ?_; rintro e w2 ⟨A2, c2, f2, rfl, hown2, hb2⟩; obtain ⟨g, A3, c3, rfl, hcell, hrow, _⟩ := hown2.row0 hR1; have ROW := Lib.hid hrow; have B2 := Lib.hid hb2; clear hrow hown2 hb2))
      go_ret2
      have hrow := ROW.out
      rw [EV.out] at hrow
      refine ⟨A3, c3, by rw [G.out, EL.out]; rfl, ?_, ((Below.refl _ _).alloc (Nat.le_refl _) _).trans (B2.out.mono (by simp))⟩
      rw [EL.out]
      exact OwI.base hrow (by simp)
end Go.Proofs.Ytppahohakiidmaa
/- Counts of live star chains, by the model. -/
namespace Go.Proofs.Ytppahohakiidmaa
open Go.RowKit

def stepL (s : List Int) (c : List Nat) : List Int := s.set (c.length - 1) (s.getD (c.length - 1) 0 + 1)
theorem stepL_len (s : List Int) (c : List Nat) : (stepL s c).length = s.length := by unfold stepL; rw [List.length_set]
def BD (K : Nat) (s : List Int) : Prop := ∀ j, 0 ≤ s.getD j 0 ∧ s.getD j 0 ≤ (K : Int)
theorem BD.step {K : Nat} {s : List Int} (h : BD K s) (c : List Nat) : BD (K + 1) (stepL s c) := by
  intro j
  have hj := h j
  have hc := h (c.length - 1)
  unfold stepL
  by_cases e : c.length - 1 = j
  · subst e
    by_cases hl : c.length - 1 < s.length
    · rw [List.getD_eq_getElem?_getD, List.getElem?_set_self hl]
      simp only [Option.getD_some]
      omega
    · rw [List.set_eq_of_length_le (by omega)]
      omega
  · rw [List.getD_eq_getElem?_getD, List.getElem?_set_ne e, ← List.getD_eq_getElem?_getD]
    omega
theorem BD.more {K K' : Nat} {s : List Int} (h : BD K s) (hK : K ≤ K') : BD K' s := fun j => by have := h j; omega
theorem BD.fold : ∀ (R : List (List Nat)) (K : Nat) (s : List Int), BD K s → BD (K + R.length) (R.foldl stepL s) := by
  intro R
  induction R with
  | nil => intro K s h; exact h
  | cons c R ih =>
    intro K s h
    rw [List.foldl_cons, List.length_cons]
    have := ih (K + 1) (stepL s c) (h.step c)
    exact this.more (by omega)
theorem foldL_len : ∀ (R : List (List Nat)) (s : List Int), (R.foldl stepL s).length = s.length := by
  intro R
  induction R with
  | nil => intro s; rfl
  | cons c R ih => intro s; rw [List.foldl_cons, ih, stepL_len]

def lvS (n L d : Nat) (c : List Nat) (s : List Int) : List Int := if fitN n L (lastN c) (c.length - 1) then (pre (fitN n L) d c).foldl stepL s else s
theorem lvS_len (n L d : Nat) (c : List Nat) (s : List Int) : (lvS n L d c s).length = s.length := by
  unfold lvS
  split
  · exact foldL_len _ _
  · rfl
theorem lvS_bd {n L d K : Nat} {c : List Nat} {s : List Int} (h : BD K s) : BD (K + preN d c.length) (lvS n L d c s) := by
  unfold lvS
  split
  · exact (BD.fold _ _ _ h).more (by have := pre_most (F := fitN n L) d c; omega)
  · exact h.more (by omega)
theorem foldl_flat {α β γ : Type} (g : β → α → β) (f : γ → List α) : ∀ (l : List γ) (s : β), (l.flatMap f).foldl g s = l.foldl (fun s a => (f a).foldl g s) s := by
  intro l
  induction l with
  | nil => intro s; rfl
  | cons a l ih => intro s; rw [List.flatMap_cons, List.foldl_append, ih, List.foldl_cons]
def lvJ (n L d : Nat) (c : List Nat) (s : List Int) (i : Nat) : List Int := (c.take i).foldl (fun s a => lvS n L d (c ++ [lastN c + a]) s) (stepL s c)
theorem lvJ_end {n L d : Nat} {c : List Nat} {s : List Int} (h : fitN n L (lastN c) (c.length - 1) = true) : lvJ n L d c s c.length = lvS n L (d + 1) c s := by
  unfold lvJ lvS
  rw [List.take_of_length_le (Nat.le_refl _), if_pos h]
  show _ = ((c :: c.flatMap _).foldl stepL s)
  rw [List.foldl_cons, foldl_flat]
  congr 1
  funext s a
  rw [lastN_snoc, List.length_append, List.length_singleton, Nat.add_sub_cancel]
  split <;> rfl
theorem lvJ_succ {n L d i : Nat} {c : List Nat} {s : List Int} (h : i < c.length) : lvJ n L d c s (i + 1) = lvS n L d (c ++ [lastN c + c.getD i 0]) (lvJ n L d c s i) := by
  unfold lvJ
  rw [List.take_succ_eq_append_getElem h, List.foldl_append, List.getD_eq_getElem?_getD, List.getElem?_eq_getElem h]
  rfl
theorem lvJ_len (n L d : Nat) (c : List Nat) (s : List Int) : ∀ i, (lvJ n L d c s i).length = s.length := by
  intro i
  unfold lvJ
  generalize c.take i = l
  have key : ∀ (l : List Nat) (t : List Int), t.length = s.length → (l.foldl (fun s a => lvS n L d (c ++ [lastN c + a]) s) t).length = s.length := by
    intro l
    induction l with
    | nil => intro t h; exact h
    | cons a l ih => intro t h; rw [List.foldl_cons]; exact ih _ (by rw [lvS_len]; exact h)
  exact key l _ (stepL_len s c)
theorem lvJ_bd {n L d K : Nat} {c : List Nat} {s : List Int} (h : BD K s) : ∀ i, i ≤ c.length → BD (K + 1 + i * preN d (c.length + 1)) (lvJ n L d c s i) := by
  intro i
  induction i with
  | zero => intro _; exact (h.step c).more (by omega)
  | succ i ih =>
    intro hi
    rw [lvJ_succ (by omega)]
    have := lvS_bd (n := n) (L := L) (d := d) (c := c ++ [lastN c + c.getD i 0]) (ih (by omega))
    rw [List.length_append, List.length_singleton] at this
    refine this.more ?_
    rw [Nat.succ_mul]
    omega
theorem preN_mono (m : Nat) : ∀ d, preN d (m + 1) ≥ 1
  | 0 => Nat.le_refl _
  | d + 1 => by unfold preN; omega

set_option maxRecDepth 100000 in
set_option maxHeartbeats 4000000 in
theorem shLive_any (n L gS cS BS : Nat) (hn : n ≤ 100) (hL : L ≤ 8) : ∀ (d m K : Nat) (c : List Nat) (s : List Int) (B : Nat) (A : Option Addr) (cc : Nat) (w : World), c.length = m → 1 ≤ m → m + d = L + 1 → (∀ i, i + 1 < m → c.getD i 0 ≤ 100) → lastN c ≤ 200 → s.length = L + 1 → BD K s → K + preN d m ≤ 1000000 →
    B ≤ w.heap.size → Rd w B 1 A m ((cs c).map I) → (∀ b off, A = some ⟨b, off, none⟩ → b ≠ gS) → OwI w BS (.slice (some ⟨gS, 0, none⟩) (L + 1) cS) s →
    Calls Try.prog 57 #[.slice A m cc, .int .i64 (n : Int), .int .i64 (L : Int), .slice (some ⟨gS, 0, none⟩) (L + 1) cS] w fun e w' => e = .returned (.tuple #[]) ∧ OwI w' BS (.slice (some ⟨gS, 0, none⟩) (L + 1) cS) (lvS n L d c s) ∧ Frm (fun b => b = gS) w w' ∧ Below BS w w' := by
  intro d
  induction d with
  | zero =>
    intro m K c s B A cc w hcm hm1 hmd hcb hlast hsl hbd hK hB hr hne hown
    obtain ⟨M, hM⟩ : ∃ M, m = M + 1 := ⟨m - 1, by omega⟩
    have hlen : (cs c).length = m := by rw [cs_len]; exact hcm
    rw [← hlen] at hr
    obtain ⟨b, off, rfl, hbB, hcells⟩ := hr.cells (by omega)
    rw [hlen] at hr
    have hbg : b ≠ gS := hne b off rfl
    have HCE := Lib.hid (show ∀ i, i < m → w.cell? ⟨b, off + i, none⟩ = some (.int .i64 ((c.getD i 0 : Nat) : Int)) from fun i hi => by
      have := hcells i (by omega)
      rwa [cs_getD] at this)
    have cl := HCE.out M (by omega)
    have hlN : lastN c = c.getD M 0 := by unfold lastN; rw [hcm, hM]; rfl
    obtain ⟨x, hx⟩ : ∃ x, c.getD M 0 = x := ⟨_, rfl⟩
    rw [hx] at cl hlN
    rw [hlN] at hlast
    have hw1 : IntKind.i64.wrap ((m : Int) - 1) = (M : Int) := by rw [IntWalk.i64_in _ (by omega)]; omega
    have iM : (M : Int) < (m : Int) := by omega
    obtain ⟨e, he⟩ : ∃ e, L - M = e := ⟨_, rfl⟩
    have hwe : IntKind.i64.wrap ((L : Int) - (M : Int)) = (e : Int) := by rw [IntWalk.i64_in _ (by omega)]; omega
    obtain ⟨P, hP⟩ : ∃ P, x * 2 ^ e = P := ⟨_, rfl⟩
    have hPI : (x : Int) * 2 ^ e = (P : Int) := by rw [← hP]; push_cast; rfl
    have hPb : P ≤ 51200 := by
      have h1 : 2 ^ e ≤ 256 := Nat.pow_le_pow_right (n := 2) (by decide) (show e ≤ 8 by omega)
      have := Nat.mul_le_mul hlast h1
      omega
    have hwP : IntKind.i64.wrap (P : Int) = (P : Int) := IntWalk.i64_in _ (by omega)
    have hfit : fitN n L (lastN c) (c.length - 1) = decide (x ≤ n ∧ n ≤ P) := by
      unfold fitN
      rw [hlN, hcm, hM, Nat.add_sub_cancel, he, hP, Bool.eq_iff_iff, decide_eq_true_eq, decide_eq_true_eq]
      exact ⟨fun h => ⟨h.2.1, h.2.2⟩, fun h => ⟨by omega, h.1, h.2⟩⟩
    have HFIT := Lib.hid hfit
    have HOWN := Lib.hid hown
    have HBD := Lib.hid hbd
    have HLN := Lib.hid hlN
    have HX := Lib.hid hx
    have HP := Lib.hid hP
    have HCM := Lib.hid hcm
    have HCB := Lib.hid hcb
    have HSL := Lib.hid hsl
    have HLEN := Lib.hid hlen
    have HE := Lib.hid he
    have HM := Lib.hid hM
    have hgS := own_lt hown
    have he8 : e ≤ 8 := by omega
    have hMm : M + 1 ≤ m := by omega
    have hMm' : m ≤ M + 1 := by omega
    clear hr hcells hfit hown hbd hlN hx hP hcm hcb hsl hlen he hne hM
    by_cases h1 : n < x
    · have G := Lib.hid (show lvS n L 0 c s = s by unfold lvS; rw [HFIT.out, decide_eq_false (by omega)]; rfl)
      have i1 : (n : Int) < (x : Int) := by omega
      clear h1
      go_enter Try.func57, Try.ntmps57
      go_wp2
      refine bodyPost_ret (v := .tuple #[]) (by simp [results, Try.results57, go_sem]) rfl ?_
      exact ⟨rfl, by rw [G.out]; exact HOWN.out, Frm.refl _ _, Below.refl _ _⟩
    have i1 : ¬ (n : Int) < (x : Int) := by omega
    by_cases h2 : P < n
    · have G := Lib.hid (show lvS n L 0 c s = s by unfold lvS; rw [HFIT.out, decide_eq_false (by omega)]; rfl)
      have i2 : (P : Int) < (n : Int) := by omega
      clear h2
      go_enter Try.func57, Try.ntmps57
      go_wp2
      refine bodyPost_ret (v := .tuple #[]) (by simp [results, Try.results57, go_sem]) rfl ?_
      exact ⟨rfl, by rw [G.out]; exact HOWN.out, Frm.refl _ _, Below.refl _ _⟩
    have i2 : ¬ (P : Int) < (n : Int) := by omega
    have hft : fitN n L (lastN c) (c.length - 1) = true := by rw [HFIT.out, decide_eq_true (by omega)]
    obtain ⟨y, hy⟩ : ∃ y, s.getD M 0 = y := ⟨_, rfl⟩
    have hyb := HBD.out M
    rw [hy] at hyb
    have hst : stepL s c = s.set M (y + 1) := by unfold stepL; rw [HCM.out, HM.out, Nat.add_sub_cancel, hy]
    have hcS : w.cell? ⟨gS, M, none⟩ = some (.int .i64 y) := by
      obtain ⟨g, hg, _, _, hc⟩ := own_cells HOWN.out HSL.out (by omega)
      injection hg with hg
      injection hg with hg
      subst hg
      rw [hc M (by omega), hy]
    have hwy : IntKind.i64.wrap (y + 1) = y + 1 := IntWalk.i64_in _ (by omega)
    obtain ⟨fz, hst1⟩ := own_store (x := y + 1) (i := M) HOWN.out HSL.out
    rw [← hst] at hst1
    have HST := Lib.hid hst1
    have iML : (M : Int) < (L : Int) + 1 := by omega
    have HFT := Lib.hid hft
    have F1 := Lib.hid (show Frm (fun b => b = gS) w (w.setCell ⟨gS, M, none⟩ (.int .i64 (y + 1))) from Frm.set rfl)
    have B1 := Lib.hid (show Below BS w (w.setCell ⟨gS, M, none⟩ (.int .i64 (y + 1))) from (Below.refl _ _).setCell hgS.1 _)
    clear hy hst hst1 hft h1 h2
    have eML : M = L := by omega
    subst eML
    have G := Lib.hid (show lvS n M 0 c s = stepL s c by unfold lvS; rw [HFT.out]; rfl)
    have ieq : ((M : Int) == (M : Int)) = true := by simp
    have e0 : e = 0 := by have := HE.out; omega
    have hxP : P = x := by
      have := HP.out
      rw [e0, Nat.pow_zero, Nat.mul_one] at this
      exact this.symm
    have i2x : ¬ (x : Int) < (n : Int) := by omega
    clear e0 hxP
    go_enter Try.func57, Try.ntmps57
    go_wp2
    refine bodyPost_ret (v := .tuple #[]) (by simp [results, Try.results57, go_sem]) rfl ?_
    exact ⟨rfl, by rw [G.out]; exact HST.out, F1.out, B1.out⟩
  | succ d ih =>
    intro m K c s B A cc w hcm hm1 hmd hcb hlast hsl hbd hK hB hr hne hown
    obtain ⟨M, hM⟩ : ∃ M, m = M + 1 := ⟨m - 1, by omega⟩
    have hlen : (cs c).length = m := by rw [cs_len]; exact hcm
    rw [← hlen] at hr
    obtain ⟨b, off, rfl, hbB, hcells⟩ := hr.cells (by omega)
    rw [hlen] at hr
    have hbg : b ≠ gS := hne b off rfl
    have HCE := Lib.hid (show ∀ i, i < m → w.cell? ⟨b, off + i, none⟩ = some (.int .i64 ((c.getD i 0 : Nat) : Int)) from fun i hi => by
      have := hcells i (by omega)
      rwa [cs_getD] at this)
    have cl := HCE.out M (by omega)
    have hlN : lastN c = c.getD M 0 := by unfold lastN; rw [hcm, hM]; rfl
    obtain ⟨x, hx⟩ : ∃ x, c.getD M 0 = x := ⟨_, rfl⟩
    rw [hx] at cl hlN
    rw [hlN] at hlast
    have hw1 : IntKind.i64.wrap ((m : Int) - 1) = (M : Int) := by rw [IntWalk.i64_in _ (by omega)]; omega
    have iM : (M : Int) < (m : Int) := by omega
    obtain ⟨e, he⟩ : ∃ e, L - M = e := ⟨_, rfl⟩
    have hwe : IntKind.i64.wrap ((L : Int) - (M : Int)) = (e : Int) := by rw [IntWalk.i64_in _ (by omega)]; omega
    obtain ⟨P, hP⟩ : ∃ P, x * 2 ^ e = P := ⟨_, rfl⟩
    have hPI : (x : Int) * 2 ^ e = (P : Int) := by rw [← hP]; push_cast; rfl
    have hPb : P ≤ 51200 := by
      have h1 : 2 ^ e ≤ 256 := Nat.pow_le_pow_right (n := 2) (by decide) (show e ≤ 8 by omega)
      have := Nat.mul_le_mul hlast h1
      omega
    have hwP : IntKind.i64.wrap (P : Int) = (P : Int) := IntWalk.i64_in _ (by omega)
    have hfit : fitN n L (lastN c) (c.length - 1) = decide (x ≤ n ∧ n ≤ P) := by
      unfold fitN
      rw [hlN, hcm, hM, Nat.add_sub_cancel, he, hP, Bool.eq_iff_iff, decide_eq_true_eq, decide_eq_true_eq]
      exact ⟨fun h => ⟨h.2.1, h.2.2⟩, fun h => ⟨by omega, h.1, h.2⟩⟩
    have HFIT := Lib.hid hfit
    have HOWN := Lib.hid hown
    have HBD := Lib.hid hbd
    have HLN := Lib.hid hlN
    have HX := Lib.hid hx
    have HP := Lib.hid hP
    have HCM := Lib.hid hcm
    have HCB := Lib.hid hcb
    have HSL := Lib.hid hsl
    have HLEN := Lib.hid hlen
    have HE := Lib.hid he
    have HM := Lib.hid hM
    have hgS := own_lt hown
    have he8 : e ≤ 8 := by omega
    have hMm : M + 1 ≤ m := by omega
    have hMm' : m ≤ M + 1 := by omega
    clear hr hcells hfit hown hbd hlN hx hP hcm hcb hsl hlen he hne hM
    by_cases h1 : n < x
    · have G := Lib.hid (show lvS n L (d + 1) c s = s by unfold lvS; rw [HFIT.out, decide_eq_false (by omega)]; rfl)
      have i1 : (n : Int) < (x : Int) := by omega
      clear h1
      go_enter Try.func57, Try.ntmps57
      go_wp2
      refine bodyPost_ret (v := .tuple #[]) (by simp [results, Try.results57, go_sem]) rfl ?_
      exact ⟨rfl, by rw [G.out]; exact HOWN.out, Frm.refl _ _, Below.refl _ _⟩
    have i1 : ¬ (n : Int) < (x : Int) := by omega
    by_cases h2 : P < n
    · have G := Lib.hid (show lvS n L (d + 1) c s = s by unfold lvS; rw [HFIT.out, decide_eq_false (by omega)]; rfl)
      have i2 : (P : Int) < (n : Int) := by omega
      clear h2
      go_enter Try.func57, Try.ntmps57
      go_wp2
      refine bodyPost_ret (v := .tuple #[]) (by simp [results, Try.results57, go_sem]) rfl ?_
      exact ⟨rfl, by rw [G.out]; exact HOWN.out, Frm.refl _ _, Below.refl _ _⟩
    have i2 : ¬ (P : Int) < (n : Int) := by omega
    have hft : fitN n L (lastN c) (c.length - 1) = true := by rw [HFIT.out, decide_eq_true (by omega)]
    obtain ⟨y, hy⟩ : ∃ y, s.getD M 0 = y := ⟨_, rfl⟩
    have hyb := HBD.out M
    rw [hy] at hyb
    have hst : stepL s c = s.set M (y + 1) := by unfold stepL; rw [HCM.out, HM.out, Nat.add_sub_cancel, hy]
    have hcS : w.cell? ⟨gS, M, none⟩ = some (.int .i64 y) := by
      obtain ⟨g, hg, _, _, hc⟩ := own_cells HOWN.out HSL.out (by omega)
      injection hg with hg
      injection hg with hg
      subst hg
      rw [hc M (by omega), hy]
    have hwy : IntKind.i64.wrap (y + 1) = y + 1 := IntWalk.i64_in _ (by omega)
    obtain ⟨fz, hst1⟩ := own_store (x := y + 1) (i := M) HOWN.out HSL.out
    rw [← hst] at hst1
    have HST := Lib.hid hst1
    have iML : (M : Int) < (L : Int) + 1 := by omega
    have HFT := Lib.hid hft
    have F1 := Lib.hid (show Frm (fun b => b = gS) w (w.setCell ⟨gS, M, none⟩ (.int .i64 (y + 1))) from Frm.set rfl)
    have B1 := Lib.hid (show Below BS w (w.setCell ⟨gS, M, none⟩ (.int .i64 (y + 1))) from (Below.refl _ _).setCell hgS.1 _)
    clear hy hst hst1 hft h1 h2
    have IH := Lib.hid ih
    have G := Lib.hid (lvJ_end (n := n) (L := L) (d := d) (c := c) (s := s) HFT.out)
    have ine : ((M : Int) == (L : Int)) = false := by rw [beq_eq_false_iff_ne]; omega
    have hpk : K + (1 + m * preN d (m + 1)) ≤ 1000000 := hK
    have HPK := Lib.hid hpk
    clear ih hpk hK
    go_enter Try.func57, Try.ntmps57
    go_wp2
    go_loopw [42] (fun iv wr => ∃ i : Nat, iv = .int .i64 (i : Int) ∧ i ≤ m ∧ Aside (OwI wr BS (.slice (some ⟨gS, 0, none⟩) (L + 1) cS) (lvJ n L d c s i) ∧ Frm (fun b => b = gS) w wr ∧ Below BS w wr)) (fun iv _ => m - (intOf iv).toNat)
    case atStart => exact ⟨0, rfl, by omega, HST.out, F1.out, B1.out⟩
    case round =>
      obtain ⟨i, rfl, hi, AS⟩ := hrel
      have OWN := Lib.hid AS.out.1
      have FR := Lib.hid AS.out.2.1
      have BEL := Lib.hid AS.out.2.2
      have hs := AS.out.2.1.size
      have hgr := own_lt AS.out.1
      clear AS
      by_cases hlt : i < m
      · have iim : (i : Int) < (m : Int) := by omega
        have hcw : ∀ j, j < m → wr.cell? ⟨b, off + j, none⟩ = some (.int .i64 ((c.getD j 0 : Nat) : Int)) := fun j hj => (cell_heap (p := ⟨b, off + j, none⟩) (FR.out.block b (by omega) hbg)).trans (HCE.out j hj)
        have hrw : Rd wr B 1 (some ⟨b, off, none⟩) m ((cs c).map I) := by
          refine ⟨by rw [List.length_map, HLEN.out, Nat.mul_one], fun _ => ⟨b, off, rfl, hbB, fun j hj => ?_⟩⟩
          rw [hcw j (by omega), List.getElem?_map]
          have hjl : j < (cs c).length := by rw [HLEN.out]; omega
          have := cs_getD c j
          rw [List.getD_eq_getElem?_getD, List.getElem?_eq_getElem hjl] at this
          rw [List.getElem?_eq_getElem hjl]
          simp only [Option.getD_some] at this
          simp [this, I]
        have ci := hcw i hlt
        have hsucc := lvJ_succ (n := n) (L := L) (d := d) (s := s) (i := i) (c := c) (by rw [HCM.out]; exact hlt)
        have ha200 : c.getD i 0 ≤ 100 := by
          rcases Nat.lt_or_ge (i + 1) m with h | h
          · exact HCB.out i h
          · rw [show i = M by have := HM.out; omega, HX.out]; omega
        have hx100 : x ≤ 100 := by omega
        obtain ⟨a, ha⟩ : ∃ a, c.getD i 0 = a := ⟨_, rfl⟩
        rw [ha] at ci hsucc ha200
        rw [HLN.out] at hsucc
        obtain ⟨z, hz⟩ : ∃ z, x + a = z := ⟨_, rfl⟩
        rw [hz] at hsucc
        have hwa : IntKind.i64.wrap ((x : Int) + (a : Int)) = (z : Int) := by rw [IntWalk.i64_in _ (by omega)]; omega
        have HOW := Lib.hid (show Calls _ _ _ _ _ from by
          have h := l1Own_any B (some ⟨b, off, none⟩) cc (cs c) wr (by rw [HLEN.out]; omega) (by omega) (by rw [HLEN.out]; exact hrw)
          rw [HLEN.out] at h
          exact h)
        have hbud : K + 1 + i * preN d (m + 1) + preN d (m + 1) ≤ 1000000 := by
          have h1 := Nat.mul_le_mul_right (preN d (m + 1)) (show i + 1 ≤ m by omega)
          rw [Nat.succ_mul] at h1
          have := HPK.out
          omega
        have hbdJ := lvJ_bd (n := n) (L := L) (d := d) (c := c) HBD.out i (by rw [HCM.out]; omega)
        rw [HCM.out] at hbdJ
        have IHC := Lib.hid (fun (B' : Nat) (A' : Option Addr) (cc' : Nat) (W : World) (h8 : B' ≤ W.heap.size) (h9 : Rd W B' 1 A' (m + 1) ((cs (c ++ [z])).map I)) (h10 : ∀ b off, A' = some ⟨b, off, none⟩ → b ≠ gS) (h11 : OwI W BS (.slice (some ⟨gS, 0, none⟩) (L + 1) cS) (lvJ n L d c s i)) =>
          IH.out (m + 1) (K + 1 + i * preN d (m + 1)) (c ++ [z]) (lvJ n L d c s i) B' A' cc' W (by rw [List.length_append, HCM.out]; rfl) (by omega) (by omega) (fun j hj => by
            rw [List.getD_eq_getElem?_getD, List.getElem?_append_left (by rw [HCM.out]; omega), ← List.getD_eq_getElem?_getD]
            rcases Nat.lt_or_ge (j + 1) m with h | h
            · exact HCB.out j h
            · rw [show j = M by have := HM.out; omega, HX.out]; omega) (by rw [lastN_snoc]; omega) (by rw [lvJ_len]; exact HSL.out) hbdJ hbud h8 h9 h10 h11)
        rw [← hsucc] at IHC
        have CSN := Lib.hid (show cs c ++ [(z : Int)] = cs (c ++ [z]) from (cs_snoc c z).symm)
        clear ha hz hsucc hcw hrw hbud hbdJ
        go_wp2_with (first
          | (go_at_call 78; refine HOW.out.mono ?_; rintro e w5 ⟨A5, c5, rfl, hown5, hb5⟩; have O5 := Lib.hid hown5; have B5 := Lib.hid hb5; have hs5 : wr.heap.size ≤ w5.heap.size := hb5.size; clear hown5 hb5)
          | (at_builtin; refine list_step (fun K hK => ?_); refine step_app_int rfl (.tmp 47) (.tmp 51) rfl wr.heap.size m _ (cs c) rfl (OwI.alloc O5.out _) HLEN.out w5.heap.size 1 (z : Int) rfl (by simp) (by omega) (by simp; omega) ?_; intro A6 c6 w6 hown6 hg6 hbel6; have O6 := Lib.hid hown6; have B6 := Lib.hid ((B5.out.alloc hs5 _).trans hbel6); have hs6 : wr.heap.size ≤ w6.heap.size := (by have := hbel6.size; simp at this; omega); clear hown6 hg6 hbel6; go_simp; refine hK _ _ ?_; clear hK K)
          | (go_at_call 57; refine (IHC.out w6.heap.size A6 c6 w6 (Nat.le_refl _) (by have h := O6.out; unfold OwI at h; rw [CSN.out, cs_len, List.length_append, HCM.out] at h; exact Rd.of_own h) (fun b' off' e' => by subst e'; have h := (own_block (show World.ownsRow _ _ _ _ _ _ _ from O6.out) b' rfl).1; omega) (OwI.below OWN.out B6.out)).mono ?_; rintro e w7 ⟨rfl, hown7, hfr7, hb7⟩; have O7 := Lib.hid hown7; have F7 := Lib.hid (FR.out.trans ((Frm.of_below B6.out).trans hfr7)); have B7 := Lib.hid (BEL.out.trans ((B6.out.mono (by omega)).trans hb7)); clear hown7 hfr7 hb7))
        go_roundw
        case rel => exact ⟨i + 1, by go_num, by omega, O7.out, F7.out, B7.out⟩
        case measure => simp [intOf]; omega
      · have e : i = m := by omega
        subst e
        have hE := G.out
        rw [HCM.out] at hE
        have HE2 := Lib.hid hE
        clear hE
        go_wp2
        go_end0
        exact ⟨rfl, by rw [← HE2.out]; exact OWN.out, FR.out, BEL.out⟩
end Go.Proofs.Ytppahohakiidmaa
/- Counts of live star chains: both sides. -/
namespace Go.Proofs.Ytppahohakiidmaa
open Go.RowKit

/-- The memory of the counts. -/
structure LI (B n L bl bn bC gS cS : Nat) (r : Nat) (s : List Int) (X : Nat → Prop) (w : World) : Prop where
  hl : w.heap[bl]? = some (.cells #[.int .i64 (L : Int)] 3 (0, 0))
  hn : w.heap[bn]? = some (.cells #[.int .i64 (n : Int)] 3 (0, 0))
  hC : w.heap[bC]? = some (.cells #[.slice (some ⟨gS, 0, none⟩) (L + 1) cS] 22 (0, 0))
  own : OwI w B (.slice (some ⟨gS, 0, none⟩) (L + 1) cS) s
  sl : s.length = L + 1
  lt : ∀ b, b = bl ∨ b = bn ∨ b = bC ∨ b = gS → b < w.heap.size ∧ ¬ X b
  ne : bl ≠ gS ∧ bn ≠ gS ∧ bC ≠ gS
  bd : ∃ K, BD K s ∧ K + r ≤ 1000000
theorem LI.frame {B n L bl bn bC gS cS r : Nat} {s : List Int} {X X' : Nat → Prop} {w w' : World} (h : LI B n L bl bn bC gS cS r s X w) (F : Frm X w w') (hX : ∀ b, X' b → X b ∨ w.heap.size ≤ b) : LI B n L bl bn bC gS cS r s X' w' := by
  have hx : ∀ b, b < w.heap.size → ¬ X b → ¬ X' b := fun b h1 h2 h3 => by
    rcases hX b h3 with h | h
    · exact h2 h
    · omega
  have hk : ∀ b, b = bl ∨ b = bn ∨ b = bC ∨ b = gS → w'.heap[b]? = w.heap[b]? := fun b hb => F.block b (h.lt b hb).1 (h.lt b hb).2
  refine ⟨(hk bl (.inl rfl)).trans h.hl, (hk bn (.inr (.inl rfl))).trans h.hn, (hk bC (.inr (.inr (.inl rfl)))).trans h.hC, own_heap h.own (hk gS (.inr (.inr (.inr rfl)))), h.sl, ?_, h.ne, h.bd⟩
  intro b hb
  have := F.size
  have := (h.lt b hb)
  exact ⟨by omega, hx b this.1 this.2⟩
def goT (_ : List Int) : Bool := true

set_option maxRecDepth 100000 in
set_option maxHeartbeats 2000000 in
theorem live1_any (B n L bl bn bC gS cS r : Nat) (s : List Int) (X : Nat → Prop) (w : World) (gc cc : Nat) (c : List Nat) (m : Nat) (hI : LI B n L bl bn bC gS cS (r + 1) s X w) (hcm : c.length = m) (hm1 : 1 ≤ m) (hmL : m ≤ L + 1) (hL : L ≤ 12) :
    Calls Try.prog 59 #[.slice (some ⟨gc, 0, none⟩) m cc, .pointer (some ⟨bC, 0, none⟩)] w fun e w' =>
      e = .returned (.bool (goT (stepL s c))) ∧ LI B n L bl bn bC gS cS r (stepL s c) X w' ∧ Below B w w' ∧ w.heap.size ≤ w'.heap.size ∧ ∀ b, X b → b < w.heap.size → w'.heap[b]? = w.heap[b]? := by
  obtain ⟨M, rfl⟩ : ∃ M, m = M + 1 := ⟨m - 1, by omega⟩
  obtain ⟨K, hbd, hK⟩ := hI.bd
  obtain ⟨y, hy⟩ : ∃ y, s.getD M 0 = y := ⟨_, rfl⟩
  have hyb := hbd M
  rw [hy] at hyb
  have hst : stepL s c = s.set M (y + 1) := by unfold stepL; rw [hcm, Nat.add_sub_cancel, hy]
  have hcC := cell_of_one hI.hC
  have hcS : w.cell? ⟨gS, M, none⟩ = some (.int .i64 y) := by
    obtain ⟨g, hg, _, _, hc⟩ := own_cells hI.own hI.sl (by omega)
    injection hg with hg
    injection hg with hg
    subst hg
    rw [hc M (by omega), hy]
  have hwy : IntKind.i64.wrap (y + 1) = y + 1 := IntWalk.i64_in _ (by omega)
  have hwM : IntKind.i64.wrap (M : Int) = (M : Int) := IntWalk.i64_in _ (by omega)
  obtain ⟨fz, hst1⟩ := own_store (x := y + 1) (i := M) hI.own hI.sl
  have hset : ∀ b, b ≠ gS → (w.setCell ⟨gS, M, none⟩ (.int .i64 (y + 1))).heap[b]? = w.heap[b]? := fun b hb => Below.heap_setCell w ⟨gS, M, none⟩ _ b hb
  have hB := (own_lt hI.own).1
  have R1 := Lib.hid (show LI B n L bl bn bC gS cS r (stepL s c) X (w.setCell ⟨gS, M, none⟩ (.int .i64 (y + 1))) from
    ⟨(hset bl hI.ne.1).trans hI.hl, (hset bn hI.ne.2.1).trans hI.hn, (hset bC hI.ne.2.2).trans hI.hC, by rw [hst]; exact hst1, by rw [stepL_len]; exact hI.sl, fun b hb => by
      have h0 := hI.lt b hb
      have : (w.setCell ⟨gS, M, none⟩ (.int .i64 (y + 1))).heap.size = w.heap.size := by simp
      exact ⟨by omega, h0.2⟩, hI.ne, K + 1, hbd.step c, by omega⟩)
  have R2 := Lib.hid (show ∀ b, X b → b < w.heap.size → (w.setCell ⟨gS, M, none⟩ (.int .i64 (y + 1))).heap[b]? = w.heap[b]? from fun b hx hb => hset b (fun e => by subst e; exact (hI.lt b (.inr (.inr (.inr rfl)))).2 hx))
  have iM : (M : Int) < (L : Int) + 1 := by omega
  clear hI hbd hy hst hst1 hset hcm
  go_enter Try.func59, Try.ntmps59
  go_wp2
  go_ret
  exact ⟨rfl, R1.out, (Below.refl _ _).setCell hB _, by simp, R2.out⟩

theorem stepsL (B n L bl bn bC gS cS : Nat) (hn : n ≤ 100) (hL : L ≤ 8) :
    Steps B (fitN n L) L 81 59 #[.pointer (some ⟨bl, 0, none⟩), .pointer (some ⟨bn, 0, none⟩)] #[.pointer (some ⟨bC, 0, none⟩)] stepL goT (LI B n L bl bn bC gS cS) where
  frame := fun _ _ _ _ _ _ h F hX => h.frame F hX
  fits := fun _ _ _ w s i h _ _ h3 => live_any n L s i bl bn w (by omega) hn h3 (cell_of_one h.hl) (cell_of_one h.hn)
  meet := fun r s X w gc cc c m hI _ _ hc h1 h2 _ _ _ => live1_any B n L bl bn bC gS cS r s X w gc cc c m hI hc h1 h2 (by omega)
theorem runL : ∀ (R : List (List Nat)) (s : List Int), runD stepL goT s R = R.foldl stepL s := by
  intro R
  induction R with
  | nil => intro s; rfl
  | cons c R ih => intro s; rw [runD_go (by rfl), ih, List.foldl_cons]
/-- The counts. -/
def lvF (n L : Nat) : List Int := lvS n L L [1] (List.replicate (L + 1) 0)
theorem lvF_run (n L : Nat) : (if fitN n L 1 0 then runD stepL goT (List.replicate (L + 1) 0) (pre (fitN n L) L [1]) else List.replicate (L + 1) 0) = lvF n L := by
  rw [runL]
  rfl
theorem lvF_len (n L : Nat) : (lvF n L).length = L + 1 := by unfold lvF; rw [lvS_len, List.length_replicate]
theorem BD_zero (n K : Nat) : BD K (List.replicate n 0) := by
  intro j
  have : (List.replicate n (0 : Int)).getD j 0 = 0 := by
    rw [List.getD_eq_getElem?_getD, List.getElem?_replicate]
    split <;> rfl
  rw [this]
  omega
def lvV (x y : Int) : List Int := if isSh x && isCt y then lvF x.toNat y.toNat else []
def lvG (x y : Int) : Bool := isSh x && isCt y
theorem lvV_yes {n L : Nat} (h1 : isSh (n : Int) = true) (h2 : isCt (L : Int) = true) : lvV (n : Int) (L : Int) = lvF n L := by unfold lvV; rw [h1, h2]; rfl
theorem lvG_yes {x y : Int} (h1 : isSh x = true) (h2 : isCt y = true) : lvG x y = true := by unfold lvG; rw [h1, h2]; rfl
theorem lvV_no1 {x : Int} (y : Int) (h1 : isSh x = false) : lvV x y = [] := by unfold lvV; rw [h1]; rfl
theorem lvV_no2 (x : Int) {y : Int} (h1 : isCt y = false) : lvV x y = [] := by unfold lvV; rw [h1, Bool.and_false]; rfl
theorem lvG_no1 {x : Int} (y : Int) (h1 : isSh x = false) : lvG x y = false := by unfold lvG; rw [h1]; rfl
theorem lvG_no2 (x : Int) {y : Int} (h1 : isCt y = false) : lvG x y = false := by unfold lvG; rw [h1, Bool.and_false]
theorem lvV_le (x y : Int) : (lvV x y).length ≤ 1000 := by
  cases h1 : isSh x with
  | false => rw [lvV_no1 y h1]; simp
  | true =>
    cases h2 : isCt y with
    | false => rw [lvV_no2 x h2]; simp
    | true =>
      have := isCt_rng h2
      unfold lvV
      rw [h1, h2]
      show (lvF x.toNat y.toNat).length ≤ 1000
      rw [lvF_len]
      omega

theorem boxes4 {w : World} {o1 o2 o3 o4 : Obj} {w5 : World} (h : (((w.alloc o1).alloc o2).alloc o3).alloc o4 = w5) :
    w5.heap[w.heap.size]? = some o1 ∧ w5.heap[w.heap.size + 1]? = some o2 ∧ w5.heap[w.heap.size + 2]? = some o3 ∧ w5.heap[w.heap.size + 3]? = some o4 ∧ w5.heap.size = w.heap.size + 4 ∧ Below w.heap.size w w5 := by
  subst h
  have z1 : (w.alloc o1).heap.size = w.heap.size + 1 := by simp
  have z2 : ((w.alloc o1).alloc o2).heap.size = w.heap.size + 2 := by simp
  have z3 : (((w.alloc o1).alloc o2).alloc o3).heap.size = w.heap.size + 3 := by simp
  have n1 := heap_alloc_new w o1
  have n2 := heap_alloc_new (w.alloc o1) o2
  have n3 := heap_alloc_new ((w.alloc o1).alloc o2) o3
  have n4 := heap_alloc_new (((w.alloc o1).alloc o2).alloc o3) o4
  rw [z1] at n2
  rw [z2] at n3
  rw [z3] at n4
  refine ⟨?_, ?_, ?_, n4, by simp, (((((Below.refl _ _).alloc (Nat.le_refl _) _).alloc (by omega) _).alloc (by omega) _).alloc (by omega) _)⟩
  · rw [Below.heap_alloc _ _ _ (by omega), Below.heap_alloc _ _ _ (by omega), Below.heap_alloc _ _ _ (by omega)]
    exact n1
  · rw [Below.heap_alloc _ _ _ (by omega), Below.heap_alloc _ _ _ (by omega)]
    exact n2
  · rw [Below.heap_alloc _ _ _ (by omega)]
    exact n3

set_option maxRecDepth 100000 in
set_option maxHeartbeats 2000000 in
theorem implLive_any (x y : Int) (w : World) : Calls Try.prog 30 #[.int .i64 x, .int .i64 y] w fun e w' => ∃ A' c', e = .returned (.tuple #[.slice A' (lvV x y).length c', .bool (lvG x y)]) ∧ OwI w' w.heap.size (.slice A' (lvV x y).length c') (lvV x y) ∧ Below w.heap.size w w' := by
  have hN := isShort_any x w
  have hC := isCounted_any y w
  cases h1 : isSh x with
  | false =>
    have E := Lib.hid (lvV_no1 y h1)
    have G := Lib.hid (lvG_no1 y h1)
    rw [h1] at hN
    have HN := Lib.hid hN
    clear hN h1 hC
    go_enter Try.func30, Try.ntmps30
    go_wp2_with (go_at_call 53; refine HN.out.mono ?_; rintro e w' ⟨rfl, rfl⟩)
    go_ret2
    exact ⟨none, 0, by rw [E.out, G.out]; rfl, by rw [E.out]; exact OwI.nil _ _, Below.refl _ _⟩
  | true =>
  cases h2 : isCt y with
  | false =>
    have E := Lib.hid (lvV_no2 x h2)
    have G := Lib.hid (lvG_no2 x h2)
    rw [h1] at hN
    rw [h2] at hC
    have HN := Lib.hid hN
    have HC := Lib.hid hC
    clear hN h1 hC h2
    go_enter Try.func30, Try.ntmps30
    go_wp2_with (first
      | (go_at_call 53; refine HN.out.mono ?_; rintro e w' ⟨rfl, rfl⟩)
      | (go_at_call 54; refine HC.out.mono ?_; rintro e w' ⟨rfl, rfl⟩))
    go_ret2
    exact ⟨none, 0, by rw [E.out, G.out]; rfl, by rw [E.out]; exact OwI.nil _ _, Below.refl _ _⟩
  | true =>
    have r1 := isSh_rng h1
    have r2 := isCt_rng h2
    obtain ⟨n, rfl⟩ : ∃ n : Nat, x = n := ⟨x.toNat, by omega⟩
    obtain ⟨L, rfl⟩ : ∃ L : Nat, y = L := ⟨y.toNat, by omega⟩
    have E := Lib.hid (lvV_yes h1 h2)
    have G := Lib.hid (lvG_yes h1 h2)
    rw [h1] at hN
    rw [h2] at hC
    have HN := Lib.hid hN
    have HC := Lib.hid hC
    have HD := Lib.hid (lvF_run n L)
    have hpn : (pre (fitN n L) L [1]).length ≤ 500000 := Nat.le_trans (pre_most L [1]) (preN_9 (by omega))
    have HP := Lib.hid hpn
    have hmk := run_make_row' (P := Try.prog) 22 3 (.int .i64 0) 8 Try.underlying22 info_int rfl .i64 .i64 (L + 1) (by omega) (by omega)
    rw [show ((L + 1 : Nat) : Int) = (L : Int) + 1 by omega] at hmk
    have hw1 : IntKind.i64.wrap ((L : Int) + 1) = (L : Int) + 1 := IntWalk.i64_in _ (by omega)
    clear hN h1 hC h2 hpn
    go_enter Try.func30, Try.ntmps30
    go_wp2_with (first
      | (go_at_call 53; refine HN.out.mono ?_; rintro e w' ⟨rfl, rfl⟩)
      | (go_at_call 54; refine HC.out.mono ?_; rintro e w' ⟨rfl, rfl⟩))
    generalize hw3 : World.alloc (World.alloc w _) _ = w3
    go_at_call 58
    refine (liveNumbers_any n L w3).mono ?_
    rintro e w5 ⟨rfl, hw5⟩
    have hz3 : w3.heap.size = w.heap.size + 2 := by rw [← hw3]; simp
    rw [← hw3] at hw5
    obtain ⟨q1, q2, q3, q4, qz, qb⟩ := boxes4 hw5.symm
    rw [hz3]
    have hb0 : OwI w5 w.heap.size (.slice (some ⟨w.heap.size, 0, none⟩) (L + 1) (L + 1)) (List.replicate (L + 1) 0) := by
      refine own_heap (zeros_ownB (w := w) (B := w.heap.size) (L + 1) (by omega) (Nat.le_refl _)) ?_
      rw [q1, heap_alloc_new]
    clear hw5 hw3 hz3 hmk
    obtain ⟨b, hb⟩ : ∃ b, w.heap.size = b := ⟨_, rfl⟩
    rw [hb] at q1 q2 q3 q4 qz hb0
    have hLI : LI b n L (b + 3) (b + 2) (b + 1) b (L + 1) (pre (fitN n L) L [1]).length (List.replicate (L + 1) 0) (fun _ => False) w5 :=
      ⟨q4, q3, q2, hb0, List.length_replicate, fun b' hb' => ⟨by omega, fun h => h⟩, ⟨by omega, by omega, by omega⟩, 0, BD_zero _ _, by have := HP.out; omega⟩
    have hrun := run_any b L 81 59 (fitN n L) _ _ stepL goT _ (enters_of Try.func81 (by kernel_rfl) rfl) (enters_of Try.func59 (by kernel_rfl) rfl)
      (stepsL b n L (b + 3) (b + 2) (b + 1) b (L + 1) (by omega) (by omega)) (by omega) (fun s i h => fitN_no1 (by omega)) w5 _ (by omega) hLI
    rw [HD.out] at hrun
    have HRUN := Lib.hid hrun
    have QB := Lib.hid (show Below b w w5 by rw [← hb]; exact qb)
    have HB := Lib.hid hb
    have HLN := Lib.hid (lvF_len n L)
    rw [hb]
    clear q1 q2 q3 q4 qz qb hLI hrun hb hb0
    go_wp2_with fail
    go_at_call 60
    refine (show Calls _ _ _ _ _ from HRUN.out).mono ?_
    rintro e w6 ⟨rfl, ⟨r, hI⟩, hb6⟩
    have hcell := cell_of_one hI.hC
    have HO := Lib.hid hI.own
    have H6 := Lib.hid (show Below b w w6 from QB.out.trans hb6)
    clear hI hb6 HRUN
    go_wp2
    go_ret2
    refine ⟨some ⟨b, 0, none⟩, L + 1, by rw [E.out, G.out, HLN.out]; rfl, ?_, by rw [HB.out]; exact H6.out⟩
    rw [E.out, HLN.out, HB.out]
    exact HO.out

set_option maxRecDepth 100000 in
set_option maxHeartbeats 2000000 in
theorem specLive_any (x y : Int) (w : World) : Calls Try.prog 29 #[.int .i64 x, .int .i64 y] w fun e w' => ∃ A' c', e = .returned (.tuple #[.slice A' (lvV x y).length c', .bool (lvG x y)]) ∧ OwI w' w.heap.size (.slice A' (lvV x y).length c') (lvV x y) ∧ Below w.heap.size w w' := by
  have hN := shNumber_any x w
  have hC := shCounted_any y w
  cases h1 : isSh x with
  | false =>
    have E := Lib.hid (lvV_no1 y h1)
    have G := Lib.hid (lvG_no1 y h1)
    rw [h1] at hN
    have HN := Lib.hid hN
    clear hN h1 hC
    go_enter Try.func29, Try.ntmps29
    go_wp2_with (go_at_call 49; refine HN.out.mono ?_; rintro e w' ⟨rfl, rfl⟩)
    go_ret2
    exact ⟨none, 0, by rw [E.out, G.out]; rfl, by rw [E.out]; exact OwI.nil _ _, Below.refl _ _⟩
  | true =>
  cases h2 : isCt y with
  | false =>
    have E := Lib.hid (lvV_no2 x h2)
    have G := Lib.hid (lvG_no2 x h2)
    rw [h1] at hN
    rw [h2] at hC
    have HN := Lib.hid hN
    have HC := Lib.hid hC
    clear hN h1 hC h2
    go_enter Try.func29, Try.ntmps29
    go_wp2_with (first
      | (go_at_call 49; refine HN.out.mono ?_; rintro e w' ⟨rfl, rfl⟩)
      | (go_at_call 51; refine HC.out.mono ?_; rintro e w' ⟨rfl, rfl⟩))
    go_ret2
    exact ⟨none, 0, by rw [E.out, G.out]; rfl, by rw [E.out]; exact OwI.nil _ _, Below.refl _ _⟩
  | true =>
    have r1 := isSh_rng h1
    have r2 := isCt_rng h2
    obtain ⟨n, rfl⟩ : ∃ n : Nat, x = n := ⟨x.toNat, by omega⟩
    obtain ⟨L, rfl⟩ : ∃ L : Nat, y = L := ⟨y.toNat, by omega⟩
    have E := Lib.hid (lvV_yes h1 h2)
    have G := Lib.hid (lvG_yes h1 h2)
    rw [h1] at hN
    rw [h2] at hC
    have HN := Lib.hid hN
    have HC := Lib.hid hC
    have hmk := run_make_row' (P := Try.prog) 22 3 (.int .i64 0) 8 Try.underlying22 info_int rfl .i64 .i64 (L + 1) (by omega) (by omega)
    rw [show ((L + 1 : Nat) : Int) = (L : Int) + 1 by omega] at hmk
    have hw1 : IntKind.i64.wrap ((L : Int) + 1) = (L : Int) + 1 := IntWalk.i64_in _ (by omega)
    clear hN h1 hC h2
    go_enter Try.func29, Try.ntmps29
    go_wp2_with (first
      | (go_at_call 49; refine HN.out.mono ?_; rintro e w' ⟨rfl, rfl⟩)
      | (go_at_call 51; refine HC.out.mono ?_; rintro e w' ⟨rfl, rfl⟩))
    have O1 := own_one (w := w.alloc (.cells (madeCells #[.int .i64 0] (L + 1)) 3)) (B := 0) 1 (by omega)
    have OZ := OwI.alloc (zeros_ownB (w := w) (B := w.heap.size) (L + 1) (by omega) (Nat.le_refl _)) (.cells #[.int .i64 1] 3)
    have hz : (w.alloc (.cells (madeCells #[.int .i64 0] (L + 1)) 3)).heap.size = w.heap.size + 1 := by simp
    have hlive := shLive_any n L w.heap.size (L + 1) w.heap.size (by omega) (by omega) L 1 0 [1] (List.replicate (L + 1) 0) _ (some ⟨w.heap.size + 1, 0, none⟩) 1 _ rfl (Nat.le_refl _) (by omega) (fun i hi => absurd hi (by omega)) (show (1 : Nat) ≤ 200 by omega) List.length_replicate (BD_zero _ _) (by have := preN_9 (L := L) (by omega); omega)
      (Nat.le_refl _) (by have h := O1.rd; rw [hz] at h; exact h) (fun b off e => by injection e with e; injection e with e; omega) OZ
    have HLV := Lib.hid hlive
    have HLN := Lib.hid (lvF_len n L)
    have B0 := Lib.hid (((Below.refl w.heap.size w).alloc (Nat.le_refl _) (.cells (madeCells #[.int .i64 0] (L + 1)) 3)).alloc (by simp) (.cells #[.int .i64 1] 3))
    clear hlive O1 OZ hz
    go_wp2_with fail
    go_at_call 57
    refine (show Calls _ _ _ _ _ from HLV.out).mono ?_
    rintro e w6 ⟨rfl, hown, _, hb6⟩
    have HO := Lib.hid hown
    have H6 := Lib.hid hb6
    clear hown hb6 HLV
    go_wp2
    go_ret2
    refine ⟨some ⟨w.heap.size, 0, none⟩, L + 1, by rw [E.out, G.out, HLN.out]; rfl, ?_, B0.out.trans H6.out⟩
    rw [E.out, HLN.out]
    exact HO.out
end Go.Proofs.Ytppahohakiidmaa
/- A number put into a list of own memory, by the library. -/
namespace Go.Proofs.Ytppahohakiidmaa
open Go.RowKit

theorem append_two (w : World) (ty : TypeId) (A : Option Addr) (n c : Nat) (x : Value) : (Builtin.append_ #[53, 22] ty #[.slice A n c, x]).run Try.prog w = (Builtin.append_ #[53, 53] ty #[.slice A n c, x]).run Try.prog w := by
  have u1 := run_underlying Try.underlying53
  have u2 := run_underlying Try.underlying22
  unfold Builtin.append_
  simp [Sem.run_bind, u1, u2]

/-- The operation copy, where its run is known. -/
theorem at_copy (w : World) {o : Oper} {a : Act} {K : Act → World → Prop} {Q : Exit → Act → World → Prop} (d s : Operand) (t t' : TypeId)
    (ho : o.op = .call { callee := .builtin .copy, args := #[d, s], argTypes := #[t, t'] }) (v u : Value) (hd : a.eval d = v) (hs : a.eval s = u) {v' : Value} {w' : World}
    (hr : (Builtin.copy_ #[t, t'] o.type #[v, u]).run Try.prog w = .ok v' w') (h : K (a.put o.dst v') w') : o.wp Try.prog a w K Q := by
  unfold Oper.wp execOp
  simp only [ho, resolve, invoke, builtin, Sem.run_bind, Sem.run_pure, Result.andThen_ok, List.map_toArray, List.map_cons, List.map_nil, hd, hs, hr]
  exact h
theorem list_copy (w : World) {ops : Array Oper} {rest : List Oper} {o : Oper} {a : Act} {Q : Exit → Act → World → Prop} (hgd : o.guard = none) (d s : Operand) (t t' : TypeId)
    (ho : o.op = .call { callee := .builtin .copy, args := #[d, s], argTypes := #[t, t'] }) (v u : Value) (hd : a.eval d = v) (hs : a.eval s = u) {v' : Value} {w' : World}
    (hr : (Builtin.copy_ #[t, t'] o.type #[v, u]).run Try.prog w = .ok v' w') (h : wpList Try.prog ops Q rest (a.put o.dst v') w') : wpList Try.prog ops Q (o :: rest) a w :=
  wpList_plain hgd fun _ hK => at_copy w d s t t' ho v u hd hs hr (hK _ _ h)
theorem step_copy {ops : Array Oper} {o : Oper} {a : Act} {w : World} {K : Act → World → Prop} {Q : Exit → Act → World → Prop} {E : Prop}
    (hg : o.guard = none) (d x : Operand) (dT sT : TypeId) (hop : o.op = Op.call { callee := Callee.builtin Builtin.copy, args := #[d, x], argTypes := #[dT, sT] })
    (v u : Value) (hd : a.eval d = v) (hx : a.eval x = u) {v' : Value} {w' : World} (hr : (Builtin.copy_ #[dT, sT] o.type #[v, u]).run Try.prog w = .ok v' w') (hK : K (a.put o.dst v') w') :
    if Region.wanted o (yielded ops a.tmps) = true then Oper.wp Try.prog o a w K Q else E := by
  have hw : Region.wanted o (yielded ops a.tmps) = true := by simp [Region.wanted, hg]
  rw [if_pos hw]
  unfold Oper.wp
  simp [execOp, hop, resolve, invoke, builtin, hd, hx, hr, Result.andThen]
  exact hK

/-- Stores of a list keep the block's size and type. -/
theorem setCells_heap (b : Nat) : ∀ (vs : List Value) (o : Nat) (w : World) (cur : Array Value) (t : TypeId), w.heap[b]? = some (.cells cur t (0, 0)) →
    ∃ cur', (w.setCells b o vs).heap[b]? = some (.cells cur' t (0, 0)) ∧ cur'.size = cur.size
  | [], _, _, cur, _, h => ⟨cur, h, rfl⟩
  | v :: vs, o, _, cur, t, h => by
    have h1 := heap_setCell_same _ b o cur t v h
    obtain ⟨cur', h2, h3⟩ := setCells_heap b vs (o + 1) _ _ t h1
    exact ⟨cur', h2, by rw [h3]; simp⟩
theorem setCells_below {B b : Nat} (hB : B ≤ b) : ∀ (vs : List Value) (o : Nat) (w0 w : World), Below B w0 w → Below B w0 (w.setCells b o vs)
  | [], _, _, _, h => h
  | v :: vs, o, w0, _, h => setCells_below hB vs (o + 1) w0 _ (h.setCell (p := ⟨b, o, none⟩) hB v)
/-- A row by its block and its cells. -/
theorem own_cells_mk {w : World} {B g cap n : Nat} {cur : Array Value} {t : TypeId} {xs : List Value} (hB : B ≤ g) (hg : w.heap[g]? = some (.cells cur t (0, 0))) (hs : cur.size = cap) (hn : n ≤ cap) (hM : cap ≤ maxLen) (hl : xs.length = n)
    (hc : ∀ j, j < n → w.cell? ⟨g, j, none⟩ = xs[j]?) : w.ownsRow B t 1 (.slice (some ⟨g, 0, none⟩) n cap) n xs := by
  refine ⟨by omega, .inr ⟨g, cap, cur, rfl, hB, hg, hn, hM, by omega, ?_⟩⟩
  refine List.ext_getElem (by rw [List.length_take, Array.length_toList]; omega) fun j h1 h2 => ?_
  have hj : j < n := by omega
  have h := hc j hj
  unfold World.cell? at h
  rw [hg] at h
  simp only [Option.isSome_none, Bool.false_eq_true, if_false] at h
  rw [List.getElem?_eq_getElem h2] at h
  rw [List.getElem_take]
  have h3 : j < cur.size := by omega
  rw [Array.getElem?_eq_getElem h3] at h
  simp only [Option.some.injEq] at h
  rw [Array.getElem_toList]
  exact h
/-- The list with x at index i. -/
def insA (l : List Int) (i : Nat) (x : Int) : List Int := l.take i ++ x :: l.drop i
theorem insA_length (l : List Int) {i : Nat} (x : Int) (hi : i ≤ l.length) : (insA l i x).length = l.length + 1 := by
  unfold insA
  rw [List.length_append, List.length_cons, List.length_take, List.length_drop]
  omega
theorem insA_at (l : List Int) {i : Nat} (x : Int) (hi : i ≤ l.length) (j : Nat) : ((insA l i x).map I)[j]? = if j < i then (l.map I)[j]? else if j = i then some (I x) else (l.map I)[j - 1]? := by
  unfold insA
  rw [List.map_append, List.map_cons, List.map_take, List.map_drop]
  by_cases h1 : j < i
  · rw [if_pos h1, List.getElem?_append_left (by simp; omega), List.getElem?_take, if_pos h1]
  · rw [if_neg h1, List.getElem?_append_right (by simp; omega)]
    have e : (List.take i (l.map I)).length = i := by simp; omega
    rw [e]
    by_cases h2 : j = i
    · subst h2
      simp
    · rw [if_neg h2, show j - i = (j - i - 1) + 1 by omega, List.getElem?_cons_succ, List.getElem?_drop]
      congr 1
      omega

set_option maxRecDepth 100000 in
set_option maxHeartbeats 2000000 in
/-- At the end. -/
theorem insert_end (B0 : Nat) (A : Option Addr) (c n : Nat) (x : Int) (vb vc : Nat) (l : List Int) (w : World) (hln : l.length = n) (hn : n ≤ 1000) (hB : B0 ≤ w.heap.size)
    (hown : w.ownsRow B0 3 1 (.slice A n c) n (l.map I)) (hv : w.cell? ⟨vb, 0, none⟩ = some (I x)) :
    Calls Try.prog 85 #[.slice A n c, .int .i64 n, .slice (some ⟨vb, 0, none⟩) 1 vc] w fun e w' =>
      ∃ A' c', e = .returned (.slice A' (n + 1) c') ∧ w'.ownsRow B0 3 1 (.slice A' (n + 1) c') (n + 1) ((insA l n x).map I) ∧ Below B0 w w' := by
  obtain ⟨i0, hi, hz0, hz1, hz2⟩ := info_parts info_int
  have hrun := fun ty => run_append_lies (P := Try.prog) (w := w) 53 ty B0 3 i0 _ 1 8 Try.underlying53 hi hz0 hz1 hz2 rfl (by omega) (.slice A n c) n (l.map I) hown
    ⟨vb, 0, none⟩ 1 vc [I x] rfl (fun j u hj => by
      match j, hj with
      | 0, hj => simp at hj; subst hj; simpa [Addr.add] using hv) (fun u hu => by simp at hu; subst hu; rfl) (by omega) (by unfold maxLen; omega) (by omega) hB w.heap.size rfl
  have hrun2 : ∀ ty, ∃ g cap w', (Builtin.append_ #[53, 22] ty #[.slice A n c, .slice (some ⟨vb, 0, none⟩) 1 vc]).run Try.prog w = .ok (.slice (some ⟨g, 0, none⟩) (n + 1) cap) w' ∧
      w'.ownsRow B0 3 1 (.slice (some ⟨g, 0, none⟩) (n + 1) cap) (n + 1) (l.map I ++ [I x]) ∧ Below B0 w w' := fun ty => by
    obtain ⟨g, cap, w', hr, h2, h3, _, _⟩ := hrun ty
    exact ⟨g, cap, w', (append_two w ty A n c _).trans hr, h2, below_of_own hown hB h3⟩
  obtain ⟨g, cap, w', hr, h2, h3⟩ := hrun2 53
  have HR := Lib.hid hr
  have H2 := Lib.hid h2
  have H3 := Lib.hid h3
  clear hrun hrun2 hown hr h2 h3
  go_enter Try.func85, Try.ntmps85
  go_wp2_with (at_builtin; refine Lib.wpList_append_run _ rfl _ _ _ _ rfl _ _ rfl rfl _ _ HR.out ?_)
  all_goals
    go_ret
    refine ⟨_, _, rfl, ?_, H3.out⟩
    have e : insA l n x = l ++ [x] := by unfold insA; rw [List.take_of_length_le (by omega), List.drop_of_length_le (by omega)]
    rw [e, List.map_append]
    exact H2.out

theorem cells_some {w : World} {b : Nat} {cur : Array Value} {t : TypeId} (h : w.heap[b]? = some (.cells cur t (0, 0))) {j : Nat} (hj : j < cur.size) : (w.cell? ⟨b, j, none⟩).isSome = true := by
  unfold World.cell?
  rw [h]
  simp [hj]
theorem cells_free {w : World} {b : Nat} {cur : Array Value} {t : TypeId} (h : w.heap[b]? = some (.cells cur t (0, 0))) (j : Nat) : w.frozen? ⟨b, j, none⟩ = false := by
  unfold World.frozen?
  rw [h]
  simp
theorem cells_shape {w : World} {b : Nat} {cur : Array Value} {t : TypeId} (h : w.heap[b]? = some (.cells cur t (0, 0))) : w.shape? b = some (t, cur.size) := by
  unfold World.shape?
  rw [h]
theorem isSome_set (b : Nat) (vs : List Value) (o : Nat) (w : World) (h : ∀ j, j < vs.length → (w.cell? ⟨b, o + j, none⟩).isSome = true) (k : Nat) (hk : (w.cell? ⟨b, k, none⟩).isSome = true) : ((w.setCells b o vs).cell? ⟨b, k, none⟩).isSome = true := by
  by_cases hin : o ≤ k ∧ k < o + vs.length
  · have := World.cell?_setCells_in b vs o w h (k - o) (by omega)
    rw [show o + (k - o) = k by omega] at this
    rw [this]; rfl
  · rw [World.cell?_setCells_out b vs o w ⟨b, k, none⟩ (fun _ _ => by show k < o ∨ o + vs.length ≤ k; omega)]
    exact hk

set_option maxRecDepth 100000 in
set_option maxHeartbeats 4000000 in
theorem insert_room (B0 : Nat) (b c n i : Nat) (x : Int) (vb vc : Nat) (l : List Int) (w : World) (hln : l.length = n) (hi : i < n) (hn : n ≤ 1000) (hc : n + 1 ≤ c)
    (hown : w.ownsRow B0 3 1 (.slice (some ⟨b, 0, none⟩) n c) n (l.map I)) (hv : w.heap[vb]? = some (.cells #[I x] 3 (0, 0))) (hvb : vb ≠ b) :
    Calls Try.prog 85 #[.slice (some ⟨b, 0, none⟩) n c, .int .i64 i, .slice (some ⟨vb, 0, none⟩) 1 vc] w fun e w' =>
      ∃ A' c', e = .returned (.slice A' (n + 1) c') ∧ w'.ownsRow B0 3 1 (.slice A' (n + 1) c') (n + 1) ((insA l i x).map I) ∧ Below B0 w w' := by
  obtain ⟨g, cap, cur, hve, hBb, hg, hncap, hcM, hcs, _⟩ := hown.2.resolve_left (fun h => by have := h.1; simp at this)
  simp only [Value.slice.injEq, Option.some.injEq, Addr.mk.injEq, and_true, true_and] at hve
  obtain ⟨rfl, rfl⟩ := hve
  have hcsz : cur.size = c := by omega
  have hcl : ∀ j v, (l.map I)[j]? = some v → w.cell? ⟨b, 0 + j, none⟩ = some v := fun j v hj => by
    have hjl : j < (l.map I).length := (List.getElem?_eq_some_iff.1 hj).1
    rw [Nat.zero_add, hown.cellAt j (by simp at hjl; omega), hj]
  have hsp : ∀ j, j < n + 1 → (w.cell? ⟨b, 0 + j, none⟩).isSome = true := fun j hj => by rw [Nat.zero_add]; exact cells_some hg (by omega)
  have hfz : ∀ j, j < n + 1 → w.frozen? ⟨b, 0 + j, none⟩ = false := fun j _ => cells_free hg _
  have hvs : ∀ j v, ([I x] : List Value)[j]? = some v → w.cell? ⟨vb, 0 + j, none⟩ = some v := fun j v hj => by
    match j, hj with
    | 0, hj => simp at hj; subst hj; unfold World.cell?; rw [hv]; simp
  have hz2 : ¬ ((i : Int) = (n : Int)) := by omega
  obtain ⟨i0, hi0, hz0, hz1, hz2'⟩ := info_parts info_int
  have hsz : (Try.prog.info? 3).map (·.size) = some 1 := by rw [hi0]; simp [hz1]
  have hov : ∀ lb cb, (callFunc 95 #[.slice (some ⟨vb, 0, none⟩) 1 vc, .slice (some ⟨b, i + 1, none⟩) lb cb]).run Try.prog w = .ok (.value (.bool false)) w := fun lb cb => by
    rw [run_callFunc_extern Try.func95 (by kernel_rfl) (by kernel_rfl) (by kernel_rfl) (e := Extern.SlicesOverlaps.overlaps #[22, 22] #[4]) (by kernel_rfl),
      Lib.run_overlaps_apart w 22 4 3 Try.underlying22 1 Try.sizeOf3 ⟨vb, 0, none⟩ ⟨b, i + 1, none⟩ 1 vc lb cb hvb 3 3 1 cur.size (cells_shape hv) (cells_shape hg) (by omega) (cells_free hv 0) (cells_free hv 1)]
    rfl
  have hdl : ((l.map I).drop i).length = n - i := by rw [List.length_drop, List.length_map, hln]
  have hw1 : IntKind.i64.wrap ((i : Int) + 1) = (i : Int) + 1 := IntWalk.i64_in _ (by omega)
  have hw2 : IntKind.i64.wrap ((n : Int) + 1) = (n : Int) + 1 := IntWalk.i64_in _ (by omega)
  have hb1 : (0 : Int) ≤ (i : Int) + 1 := by omega
  have hin : i ≤ n := by omega
  have htn : ((i : Int) + 1).toNat = i + 1 := by omega
  have htn2 : ((n : Int) + 1).toNat = n + 1 := by omega
  have hb2 : ¬ (c = i + 1) := by omega
  have hb3 : (i : Int) ≤ (n : Int) + 1 := by omega
  have hb4 : ¬ (c = i) := by omega
  have hroom : ¬ ((c : Int) < (n : Int) + 1) := by omega
  have hc1 : (n : Int) + 1 ≤ (c : Int) := by omega
  have h1c : ∀ v ∈ l.map I, v.oneCell' = true := ints_one l
  have hcp1 : ∀ ty dc sc, (Builtin.copy_ #[53, 53] ty #[.slice (some ⟨b, i + 1, none⟩) (n + 1 - (i + 1)) dc, .slice (some ⟨b, i, none⟩) (n + 1 - i) sc]).run Try.prog w.drew = .ok (goInt ((l.map I).drop i).length) (w.drew.setCells b (i + 1) ((l.map I).drop i)) := fun ty dc sc =>
    run_copy_cells w.drew _ _ ty 3 b (i + 1) (n + 1 - (i + 1)) dc ⟨b, i, none⟩ (n + 1 - i) sc ((l.map I).drop i) Try.underlying53 hsz (by rw [hdl]; simp only [Nat.min_def]; split <;> omega)
      (fun j v hj => by rw [Addr.add_lit]; have h := hcl (i + j) v (by rwa [List.getElem?_drop] at hj); rwa [Nat.zero_add] at h)
      (fun j hj => by have h := hsp (i + 1 + j) (by omega); rwa [Nat.zero_add] at h) (fun j _ => cells_free hg _) (fun v hv => h1c v (List.mem_of_mem_drop hv))
  obtain ⟨W1, hW1⟩ : ∃ W1, W1 = w.drew.setCells b (i + 1) ((l.map I).drop i) := ⟨_, rfl⟩
  have hsp1 : ∀ k, k < n + 1 → (W1.cell? ⟨b, k, none⟩).isSome = true := fun k hk => by
    rw [hW1]
    exact isSome_set b _ _ _ (fun j hj => by have h := hsp (i + 1 + j) (by omega); rwa [Nat.zero_add] at h) _ (by have h := hsp k hk; rwa [Nat.zero_add] at h)
  have hcp2 : ∀ (W : World), (∀ x, W.cell? x = W1.cell? x) → (∀ x, W.frozen? x = W1.frozen? x) → ∀ ty dc, (Builtin.copy_ #[53, 22] ty #[.slice (some ⟨b, i, none⟩) (n + 1 - i) dc, .slice (some ⟨vb, 0, none⟩) 1 vc]).run Try.prog W = .ok (goInt ([I x] : List Value).length) (W.setCells b i [I x]) := fun W hWc hWf ty dc =>
    run_copy_cells W _ _ ty 3 b i (n + 1 - i) dc ⟨vb, 0, none⟩ 1 vc [I x] Try.underlying53 hsz (by simp only [Nat.min_def, List.length_cons, List.length_nil]; split <;> omega)
      (fun j v hj => by
        rw [Addr.add_lit, hWc, hW1, World.cell?_setCells_out b _ _ _ _ (fun h _ => absurd h hvb)]
        exact hvs j v hj)
      (fun j hj => by rw [hWc]; exact hsp1 _ (by simp at hj; omega)) (fun j _ => by rw [hWf, hW1, World.frozen?_setCells]; exact cells_free hg _) (fun u hu => by simp at hu; subst hu; rfl)
  rw [← hW1] at hcp1
  have HW1 := Lib.hid hW1
  have HG := Lib.hid hg
  have HOWN := Lib.hid hown
  have HSP := Lib.hid hsp
  have HCS := Lib.hid hcsz
  have HSP1 := Lib.hid hsp1
  have HCL := Lib.hid hcl
  have HCP1 := Lib.hid hcp1
  have HCP2 := Lib.hid hcp2
  clear hW1 hg hown hsp hsp1 hcl hcp1 hcp2 hfz hvs h1c hv hi0 hz0 hz1 hz2' hsz hdl hcs hcsz hln
  go_enter Try.func85, Try.ntmps85
  go_wp2_with (simp only [hov])
  refine wp_region_Tw [0, 1, 2, 3, 4, 5, 6, 7] [] (.lp 0 (.lp 1 (.lp 2 (.lp 3 (.lp 4 (.lp 5 (.lp 6 (.lp 7 (.hv 8 (.done)))))))))) (by kernel_rfl) (by kernel_rfl) ?_
  (repeat (first | (refine T_lp rfl (fun K hK => ?_); go_simp; refine hK _ ?_; clear hK K) | (refine T_ls rfl rfl (fun K hK => ?_); go_simp; refine hK _ ?_; clear hK K)))
  refine T_hv rfl (by kernel_rfl) (fun K hK => ?_)
  refine step_copy rfl (.tmp 73) (.tmp 76) 53 53 rfl (.slice (some ⟨b, i + 1, none⟩) (n + 1 - (i + 1)) (c - (i + 1))) (.slice (some ⟨b, i, none⟩) (n + 1 - i) (c - i)) ?_ ?_ (HCP1.out _ _ _) ?_
  · simp [Act.eval]
  · simp [Act.eval]
  · (go_simp; refine hK _ _ ?_; clear hK K)
    refine T_done ?_
    have hc2 := HCP2.out W1 (fun _ => rfl) (fun _ => rfl) 3 (c - i)
    go_wp2_with (simp only [hc2])
    go_ret
    refine ⟨_, _, rfl, ?_, ?_⟩
    · obtain ⟨cu1, hc1', hs1⟩ := setCells_heap b ((l.map I).drop i) (i + 1) w.drew cur _ HG.out
      rw [← HW1.out] at hc1'
      obtain ⟨cu2, hc2', hs2⟩ := setCells_heap b [I x] i W1 cu1 _ hc1'
      have hdl : ((l.map I).drop i).length = l.length - i := by simp
      have hll : l.length = n := by have h := HOWN.out.1; simpa using h
      refine own_cells_mk hBb hc2' (by have := HCS.out; omega) hc hcM (by simp [insA_length l x (by omega : i ≤ l.length), hll]) (fun j hj => ?_)
      rw [insA_at l x (by omega : i ≤ l.length) j]
      by_cases h1 : j < i
      · rw [if_pos h1, World.cell?_setCells_out b _ _ _ _ (fun _ _ => by simp; omega), HW1.out, World.cell?_setCells_out b _ _ _ _ (fun _ _ => by simp; omega)]
        exact HOWN.out.cellAt j (by omega)
      · rw [if_neg h1]
        by_cases h2 : j = i
        · subst h2
          rw [if_pos rfl]
          have h := World.cell?_setCells_in b [I x] j W1 (fun t ht => by have := HSP1.out (j + t) (by simp at ht; omega); exact this) 0 (by simp)
          rw [Nat.add_zero] at h
          rw [h]
          rfl
        · rw [if_neg h2, World.cell?_setCells_out b _ _ _ _ (fun _ _ => by simp; omega), HW1.out]
          have h := World.cell?_setCells_in b ((l.map I).drop i) (i + 1) w.drew (fun t ht => by have := HSP.out (i + 1 + t) (by omega); rw [Nat.zero_add] at this; exact this) (j - (i + 1)) (by omega)
          rw [show i + 1 + (j - (i + 1)) = j by omega] at h
          rw [h, List.getElem_drop, List.getElem?_eq_getElem (by simp; omega)]
          congr 2
          omega
    · refine setCells_below hBb _ _ _ _ ?_
      rw [HW1.out]
      exact setCells_below hBb _ _ _ _ (Below.refl _ _).drew

theorem cell_blk {w : World} {b o : Nat} {v : Value} (h : w.cell? ⟨b, o, none⟩ = some v) : b < w.heap.size := by
  unfold World.cell? at h
  simp only at h
  cases hb : w.heap[b]? with
  | none => rw [hb] at h; simp at h
  | some o => exact (Array.getElem?_eq_some_iff.1 hb).1

set_option maxRecDepth 100000 in
set_option maxHeartbeats 4000000 in
theorem insert_grow (B0 : Nat) (b c n i : Nat) (x : Int) (vb vc : Nat) (l : List Int) (w : World) (hln : l.length = n) (hi : i < n) (hn : n ≤ 1000) (hc : c < n + 1) (hB : B0 ≤ w.heap.size)
    (hown : w.ownsRow B0 3 1 (.slice (some ⟨b, 0, none⟩) n c) n (l.map I)) (hv : w.heap[vb]? = some (.cells #[I x] 3 (0, 0))) :
    Calls Try.prog 85 #[.slice (some ⟨b, 0, none⟩) n c, .int .i64 i, .slice (some ⟨vb, 0, none⟩) 1 vc] w fun e w' =>
      ∃ A' c', e = .returned (.slice A' (n + 1) c') ∧ w'.ownsRow B0 3 1 (.slice A' (n + 1) c') (n + 1) ((insA l i x).map I) ∧ Below B0 w w' := by
  obtain ⟨g, cap, cur, hve, hBb, hg, hncap, hcM, hcs, _⟩ := hown.2.resolve_left (fun h => by have := h.1; simp at this)
  simp only [Value.slice.injEq, Option.some.injEq, Addr.mk.injEq, and_true, true_and] at hve
  obtain ⟨rfl, rfl⟩ := hve
  have hcl : ∀ j v, (l.map I)[j]? = some v → w.cell? ⟨b, 0 + j, none⟩ = some v := fun j v hj => by
    have hjl : j < (l.map I).length := (List.getElem?_eq_some_iff.1 hj).1
    rw [Nat.zero_add, hown.cellAt j (by simp at hjl; omega), hj]
  have hvs : ∀ j v, ([I x] : List Value)[j]? = some v → w.cell? ⟨vb, 0 + j, none⟩ = some v := fun j v hj => by
    match j, hj with
    | 0, hj => simp at hj; subst hj; unfold World.cell?; rw [hv]; simp
  have hbw : b < w.heap.size := (Array.getElem?_eq_some_iff.1 hg).1
  have hvw : vb < w.heap.size := (Array.getElem?_eq_some_iff.1 hv).1
  have hz2 : ¬ ((i : Int) = (n : Int)) := by omega
  obtain ⟨i0, hi0, hz0, hz1, hz2'⟩ := info_parts info_int
  have hsz : (Try.prog.info? 3).map (·.size) = some 1 := by rw [hi0]; simp [hz1]
  have hlm : (l.map I).length = n := by simp [hln]
  have hkk : (n : Int) + 1 - (i : Int) = ((n + 1 - i : Nat) : Int) := by omega
  have hik : i + (n + 1 - i) = n + 1 := by omega
  have hold : (Builtin.firstCells i0.size i (.slice (some ⟨b, 0, none⟩) i c)).run Try.prog w.drew = .ok ((l.map I).take i).toArray w.drew := by
    rw [hz1]
    exact run_firstCells_some w.drew 1 i ⟨b, 0, none⟩ i c ((l.map I).take i) (by rw [List.length_take]; omega) (fun j v hj => by
      rw [Addr.add_lit]
      rw [List.getElem?_take] at hj
      split at hj
      · exact hcl j v hj
      · cases hj)
  have hrz : ∀ ty, (Builtin.append_ #[53, 3] ty #[.slice (some ⟨b, 0, none⟩) i c, .int .i64 ((n : Int) + 1 - (i : Int))]).run Try.prog w =
      .ok (.slice (some ⟨w.heap.size, 0, none⟩) (n + 1) (grownCap w (n + 1) c 3)) (w.drew.alloc (.cells (((l.map I).take i).toArray ++ Builtin.zeroCells (Value.int .i64 0).cells (n + 1 - i) ++ Builtin.zeroCells (Value.int .i64 0).cells (grownCap w (n + 1) c 3 - (n + 1))) 3)) := fun ty => by
    have h := Lib.run_append_grow_zeros w 53 3 ty 3 i0 _ .i64 .i64 Try.underlying53 Try.underlying3 hi0 hz0 (some ⟨b, 0, none⟩) i c ((l.map I).take i) hold (n + 1 - i) (by omega) (by omega) (by omega) (by omega) (by rw [hz2']; omega) (by rw [hz2', hik]; exact growslice_fits hc (by omega))
    rw [hik] at h
    rw [hkk]
    exact h
  have hGn : n + 1 ≤ grownCap w (n + 1) c 3 := grownCap_ge w _ _ _
  have hGM : grownCap w (n + 1) c 3 ≤ maxLen := grownCap_le_maxLen w (n + 1) c 3 (by unfold maxLen; omega)
  obtain ⟨G, hG⟩ : ∃ G, G = grownCap w (n + 1) c 3 := ⟨_, rfl⟩
  rw [← hG] at hrz hGn hGM
  obtain ⟨ROW, hROW⟩ : ∃ ROW : Array Value, ROW = ((l.map I).take i).toArray ++ Builtin.zeroCells (Value.int .i64 0).cells (n + 1 - i) ++ Builtin.zeroCells (Value.int .i64 0).cells (G - (n + 1)) := ⟨_, rfl⟩
  have hRs : ROW.size = G := by
    rw [hROW]
    simp [Builtin.zeroCells, Value.cells]
    omega
  have hRat : ∀ j, j < i → ROW[j]? = (l.map I)[j]? := fun j hj => by
    rw [hROW, Array.getElem?_append_left (by simp [Builtin.zeroCells, Value.cells]; omega), Array.getElem?_append_left (by simp; omega)]
    simp [hj]
  rw [← hROW] at hrz
  obtain ⟨W1, hW1⟩ : ∃ W1, W1 = w.drew.alloc (.cells ROW 3) := ⟨_, rfl⟩
  rw [← hW1] at hrz
  have hR1 : ∀ j, W1.cell? ⟨w.heap.size, j, none⟩ = ROW[j]? := fun j => by rw [hW1, World.cell?_alloc_at (w := w.drew) ROW _ w.heap.size j rfl]
  have hN : ∀ j, j < n + 1 → (W1.cell? ⟨w.heap.size, j, none⟩).isSome = true := fun j hj => by
    rw [hR1, Array.getElem?_eq_getElem (by omega)]; rfl
  have hNf : ∀ j, W1.frozen? ⟨w.heap.size, j, none⟩ = false := fun j => by rw [hW1]; exact World.frozen?_alloc_at (w := w.drew) ROW _ w.heap.size j rfl
  have hOb : ∀ j v, w.cell? ⟨b, j, none⟩ = some v → W1.cell? ⟨b, j, none⟩ = some v := fun j v h => by rw [hW1, World.cell?_alloc_past (w := w.drew) _ b j hbw]; exact h
  have hOv : ∀ j v, w.cell? ⟨vb, j, none⟩ = some v → W1.cell? ⟨vb, j, none⟩ = some v := fun j v h => by rw [hW1, World.cell?_alloc_past (w := w.drew) _ vb j hvw]; exact h
  have hbN : b ≠ w.heap.size := by omega
  have hdl : ((l.map I).drop i).length = n - i := by rw [List.length_drop, hlm]
  have h1c : ∀ v ∈ l.map I, v.oneCell' = true := ints_one l
  have hcpA : ∀ (W : World), (∀ x, W.cell? x = W1.cell? x) → (∀ x, W.frozen? x = W1.frozen? x) → ∀ ty dc, (Builtin.copy_ #[53, 22] ty #[.slice (some ⟨w.heap.size, i, none⟩) (n + 1 - i) dc, .slice (some ⟨vb, 0, none⟩) 1 vc]).run Try.prog W = .ok (goInt ([I x] : List Value).length) (W.setCells w.heap.size i [I x]) := fun W hWc hWf ty dc =>
    run_copy_cells W _ _ ty 3 w.heap.size i (n + 1 - i) dc ⟨vb, 0, none⟩ 1 vc [I x] Try.underlying53 hsz (by simp only [Nat.min_def, List.length_cons, List.length_nil]; split <;> omega)
      (fun j v hj => by rw [Addr.add_lit, hWc]; exact hOv _ v (hvs j v hj))
      (fun j hj => by rw [hWc]; exact hN _ (by simp at hj; omega)) (fun j _ => by rw [hWf]; exact hNf _) (fun u hu => by simp at hu; subst hu; rfl)
  have hcpB : ∀ (W : World), (∀ y, W.cell? y = (W1.setCells w.heap.size i [I x]).cell? y) → (∀ y, W.frozen? y = (W1.setCells w.heap.size i [I x]).frozen? y) → ∀ ty dc sc, (Builtin.copy_ #[53, 53] ty #[.slice (some ⟨w.heap.size, i + 1, none⟩) (n + 1 - (i + 1)) dc, .slice (some ⟨b, i, none⟩) (n - i) sc]).run Try.prog W = .ok (goInt ((l.map I).drop i).length) (W.setCells w.heap.size (i + 1) ((l.map I).drop i)) := fun W hWc hWf ty dc sc =>
    run_copy_cells W _ _ ty 3 w.heap.size (i + 1) (n + 1 - (i + 1)) dc ⟨b, i, none⟩ (n - i) sc ((l.map I).drop i) Try.underlying53 hsz (by rw [hdl]; simp only [Nat.min_def]; split <;> omega)
      (fun j v hj => by
        rw [Addr.add_lit, hWc, World.cell?_setCells_out _ _ _ _ _ (fun h _ => absurd h hbN)]
        have h := hcl (i + j) v (by rwa [List.getElem?_drop] at hj)
        rw [Nat.zero_add] at h
        exact hOb _ v h)
      (fun j hj => by rw [hWc]; exact isSome_set _ _ _ _ (fun t ht => hN _ (by simp at ht; omega)) _ (hN _ (by omega)))
      (fun j _ => by rw [hWf, World.frozen?_setCells]; exact hNf _) (fun v hv => h1c v (List.mem_of_mem_drop hv))
  have hGi : ¬ (G = i) := by omega
  have hGim : ¬ (G = i + 1) := by omega
  have hci : ¬ (c = i) := by omega
  have hz3 : (c : Int) < (n : Int) + 1 := by omega
  have hG63 : G ≤ 9223372036854775807 := by unfold maxLen at hGM; omega
  have hw1 : IntKind.i64.wrap ((i : Int) + 1) = (i : Int) + 1 := IntWalk.i64_in _ (by omega)
  have hw2 : IntKind.i64.wrap ((n : Int) + 1) = (n : Int) + 1 := IntWalk.i64_in _ (by omega)
  have hw3 : IntKind.i64.wrap ((n : Int) + 1 - (i : Int)) = (n : Int) + 1 - (i : Int) := IntWalk.i64_in _ (by omega)
  have hb1 : (0 : Int) ≤ (i : Int) + 1 := by omega
  have hin : i ≤ n := by omega
  have htn : ((i : Int) + 1).toNat = i + 1 := by omega
  have hb3 : (i : Int) ≤ (n : Int) := by omega
  have HW1 := Lib.hid hW1
  have HRAT := Lib.hid hRat
  have HR1 := Lib.hid hR1
  have HRS := Lib.hid hRs
  have HN := Lib.hid hN
  have HLM := Lib.hid hlm
  have HCB := Lib.hid hcpB
  have HCA := Lib.hid hcpA
  have HRZ := Lib.hid hrz
  clear hkk hik hold hROW hG hRs hRat hR1 hN hNf hOb hOv hcpA hcpB hrz hown hg hv hcl hvs hi0 hz0 hz1 hz2' hsz hdl h1c hcs hlm hW1 hln
  have hW1s : W1.heap.size = w.heap.size + 1 := by rw [HW1.out]; simp
  have hA1 := HCA.out W1 (fun _ => rfl) (fun _ => rfl) 3 (G - i)
  go_enter Try.func85, Try.ntmps85
  go_wp2_with (first
    | (at_builtin; refine Lib.wpList_append_run _ rfl _ _ _ _ rfl _ _ rfl rfl _ _ (HRZ.out _) ?_)
    | simp only [hA1])
  clear hA1
  refine wp_region_Tw [0, 1, 2, 3, 4, 5, 6, 7] [] (.lp 0 (.lp 1 (.lp 2 (.lp 3 (.lp 4 (.lp 5 (.lp 6 (.lp 7 (.hv 8 (.done)))))))))) (by kernel_rfl) (by kernel_rfl) ?_
  (repeat (first | (refine T_lp rfl (fun K hK => ?_); go_simp; refine hK _ ?_; clear hK K) | (refine T_ls rfl rfl (fun K hK => ?_); go_simp; refine hK _ ?_; clear hK K)))
  refine T_hv rfl (by kernel_rfl) (fun K hK => ?_)
  refine step_copy rfl (.tmp 50) (.tmp 53) 53 53 rfl (.slice (some ⟨w.heap.size, i + 1, none⟩) (n + 1 - (i + 1)) (G - (i + 1))) (.slice (some ⟨b, i, none⟩) (n - i) (c - i)) ?_ ?_ (HCB.out (W1.setCells w.heap.size i [I x]).drew (fun _ => rfl) (fun _ => rfl) _ _ _) ?_
  · simp [Act.eval]
  · simp [Act.eval]
  · (go_simp; refine hK _ _ ?_; clear hK K)
    refine T_done ?_
    go_wp2
    go_ret
    refine ⟨_, _, rfl, ?_, ?_⟩
    · have hg1 : W1.heap[w.heap.size]? = some (.cells ROW 3 (0, 0)) := by rw [HW1.out]; exact Array.getElem?_push_size
      obtain ⟨cu1, hc1', hs1⟩ := setCells_heap w.heap.size [I x] i W1 ROW _ hg1
      obtain ⟨cu2, hc2', hs2⟩ := setCells_heap w.heap.size ((l.map I).drop i) (i + 1) (W1.setCells w.heap.size i [I x]).drew cu1 _ hc1'
      have hdl : ((l.map I).drop i).length = l.length - i := by simp
      have hll : l.length = n := by have h := HLM.out; simpa using h
      refine own_cells_mk hB hc2' (by have := HRS.out; omega) hGn hGM (by simp [insA_length l x (by omega : i ≤ l.length), hll]) (fun j hj => ?_)
      rw [insA_at l x (by omega : i ≤ l.length) j]
      by_cases h1 : j < i
      · rw [if_pos h1, World.cell?_setCells_out _ _ _ _ _ (fun _ _ => by simp; omega)]
        rw [show ((W1.setCells w.heap.size i [I x]).drew).cell? ⟨w.heap.size, j, none⟩ = (W1.setCells w.heap.size i [I x]).cell? ⟨w.heap.size, j, none⟩ from rfl, World.cell?_setCells_out _ _ _ _ _ (fun _ _ => by simp; omega), HR1.out, HRAT.out j h1]
      · rw [if_neg h1]
        by_cases h2 : j = i
        · subst h2
          rw [if_pos rfl, World.cell?_setCells_out _ _ _ _ _ (fun _ _ => by simp)]
          rw [show ((W1.setCells w.heap.size j [I x]).drew).cell? ⟨w.heap.size, j, none⟩ = (W1.setCells w.heap.size j [I x]).cell? ⟨w.heap.size, j, none⟩ from rfl]
          have h := World.cell?_setCells_in w.heap.size [I x] j W1 (fun t ht => HN.out (j + t) (by simp at ht; omega)) 0 (by simp)
          rw [Nat.add_zero] at h
          rw [h]
          rfl
        · rw [if_neg h2]
          have h := World.cell?_setCells_in w.heap.size ((l.map I).drop i) (i + 1) (W1.setCells w.heap.size i [I x]).drew (fun t ht => isSome_set _ _ _ _ (fun t' ht' => HN.out _ (by simp at ht'; omega)) _ (HN.out _ (by omega))) (j - (i + 1)) (by omega)
          rw [show i + 1 + (j - (i + 1)) = j by omega] at h
          rw [h, List.getElem_drop, List.getElem?_eq_getElem (by simp; omega)]
          congr 2
          omega
    · refine setCells_below hB _ _ _ _ ?_
      refine (setCells_below hB _ _ _ _ ?_).drew
      rw [HW1.out]
      exact (Below.refl _ _).drew.alloc hB _
end Go.Proofs.Ytppahohakiidmaa
