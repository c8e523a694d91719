/- Joined: Bl Qj Qz Yb He Bw Fe0 Na Wd Qn Cc Cd Ce Mu Mt Mg Tg Th Ti Wt Wu Rp Rm Wx Wy Wz Wm Wn Qq. -/
import Derived.Shelf.Small.Bits
import Derived.Test.YtppahohakiidmaaPB0
import Derived.Lib.BitFns
import Derived.Laws.BitsLemmas
import Derived.Laws.Bits64b
import Derived.ArgAppend
import Derived.RangeFuncBox
import Derived.RangeFuncLeaves
import Derived.Shelf.Abstract
import Derived.OwnWalkIn
import Derived.TacticsInMore
import Derived.LoopNIn
import Derived.LoopIn
import Derived.RangeFuncNested
import Derived.RangeFuncBound
import Derived.RangeFuncCalls
import Derived.Shelf.RegionOpen
import Derived.Maps.AppendAt
import Derived.Test.YtppahohakiidmaaPB1
import Derived.Deep.DeepCutAuto
import Derived.Deep.Cut
import Derived.Deep.CutRange
import Derived.Lib.AppendZeros
import Derived.Lib.AppendZerosOnto
import Derived.Lib.Overlaps
import Derived.Lib.SliceRun
import Derived.Laws.Externs
import Derived.Laws.IdiomCopy
/- The library's bit length, at this program. -/
namespace Go.Proofs.Ytppahohakiidmaa
open Go.Shelf
def bitsLays_ren : Go.Shelf.Ren := ⟨fun | 125 => 70 | 128 => 88 | 129 => 89 | n => n, fun | 46 => 58 | 3 => 3 | 51 => 78 | 53 => 80 | 4 => 4 | 5 => 5 | 9 => 9 | n => n, fun | n => n⟩
theorem bitsLays : Go.Proofs.Lays.n125 Try.prog bitsLays_ren := {
  mixed := by kernel_rfl
  f125 := Try.func70.trans (congrArg some (by kernel_rfl))
  f128 := Try.func88.trans (congrArg some (by kernel_rfl))
  f129 := Try.func89.trans (congrArg some (by kernel_rfl))
  t3 := Try.underlying3
  a3 := Try.isAgg3
  z3 := Try.sizeOf3
  v3 := Try.zeroValue3
  t4 := Try.underlying4
  a4 := Try.isAgg4
  z4 := Try.sizeOf4
  v4 := Try.zeroValue4
  t5 := Try.underlying5
  a5 := Try.isAgg5
  z5 := Try.sizeOf5
  v5 := Try.zeroValue5
  t9 := Try.underlying9
  a9 := Try.isAgg9
  z9 := Try.sizeOf9
  v9 := Try.zeroValue9
  t46 := Try.underlying58
  a46 := Try.isAgg58
  z46 := Try.sizeOf58
  v46 := Try.zeroValue58
  t51 := Try.underlying78
  a51 := Try.isAgg78
  z51 := Try.sizeOf78
  v51 := Try.zeroValue78
  t53 := Try.underlying80
  a53 := Try.isAgg80
  z53 := Try.sizeOf80
  v53 := Try.zeroValue80 }
theorem bitsLen_any (x : Int) (w : World) (h0 : 0 ≤ x) (h1 : x ≤ 18446744073709551615) :
    Calls Try.prog 70 #[.int .u64 x] w fun e w' => e = .returned (.int .i64 (Lib.bitLen x.toNat)) ∧ w' = w := Any.bits_Len bitsLays x w h0 h1
end Go.Proofs.Ytppahohakiidmaa
/- Bit lengths. -/
namespace Go.Proofs.Ytppahohakiidmaa
open Go.RowKit

def bl (n : Int) : Nat := Lib.bitLen n.toNat
theorem bl_more {n : Nat} {b : Nat} (hn : n ≤ 1000000) (h : 2 ^ b ≤ n) : b + 1 ≤ Lib.bitLen n := by
  rw [Lib.bitLen_shift b n h (by omega)]
  have h1 : n / 2 ^ b ≠ 0 := by
    have := Nat.div_pos h (Nat.two_pow_pos b)
    omega
  have h2 : n / 2 ^ b ≤ n := Nat.div_le_self _ _
  rw [Lib.bitLen_half (n / 2 ^ b) h1 (by omega)]
  omega
theorem bl_bd {n : Nat} (hn : n ≤ 1000000) : Lib.bitLen n ≤ 20 := Lib.bitLen_le n 20 (by omega) (by omega)

def isNum (n : Int) : Bool := inB n 1 1000000
def bitN (n : Int) : Int := if isNum n then (bl n : Int) else 0
theorem bitN_true {n : Int} (h : isNum n = true) : bitN n = bl n := by unfold bitN; rw [if_pos h]
theorem bitN_false {n : Int} (h : isNum n = false) : bitN n = 0 := by unfold bitN; rw [h]; rfl
theorem isNum_rng {n : Int} (h : isNum n = true) : 1 ≤ n ∧ n ≤ 1000000 := by
  unfold isNum inB at h
  simpa using h

theorem isExponent_any (n : Int) (w : World) : Calls Try.prog 105 #[.int .i64 n] w fun e w' => e = .returned (.bool (isNum n)) ∧ w = w' := by
  by_cases h1 : 1 ≤ n <;> by_cases h2 : n ≤ 1000000
  all_goals
    go_enter Try.func105, Try.ntmps105
    go_wp2
    go_ret
    exact ⟨ret_bool (by simp [isNum, inB, h1, h2]), rfl⟩

end Go.Proofs.Ytppahohakiidmaa
/- How many digits are 1: the library's sum of bits, byte by byte. -/
namespace Go.Proofs.Ytppahohakiidmaa
open Go.RowKit

def dgF : Nat → Nat → Nat
  | 0, _ => 0
  | f + 1, n => n % 2 + dgF f (n / 2)
theorem dgF_succ (f n : Nat) : dgF (f + 1) n = n % 2 + dgF f (n / 2) := rfl
theorem dgF_split : ∀ (k f u y : Nat), u < 2 ^ k → dgF (k + f) (u + 2 ^ k * y) = dgF k u + dgF f y
  | 0, f, u, y, h => by
    have : u = 0 := by simpa using h
    subst this
    simp [dgF]
  | k + 1, f, u, y, h => by
    have e1 : (u + 2 ^ (k + 1) * y) % 2 = u % 2 := by rw [Nat.pow_succ, Nat.mul_comm (2 ^ k) 2, Nat.mul_assoc]; omega
    have e2 : (u + 2 ^ (k + 1) * y) / 2 = u / 2 + 2 ^ k * y := by rw [Nat.pow_succ, Nat.mul_comm (2 ^ k) 2, Nat.mul_assoc]; omega
    have e3 : u / 2 < 2 ^ k := by rw [Nat.pow_succ] at h; omega
    rw [show k + 1 + f = (k + f) + 1 by omega]
    rw [dgF_succ, dgF_succ, e1, e2, dgF_split k f (u / 2) y e3]
    omega
theorem land_split {u p : Nat} (hu : u < 256) (hp : p < 256) (v q : Nat) : (u + 256 * v) &&& (p + 256 * q) = (u &&& p) + 256 * (v &&& q) := by
  have h1 : ((u + 256 * v) &&& (p + 256 * q)) % 2 ^ 8 = u &&& p := by
    rw [Nat.and_mod_two_pow]
    congr 1 <;> omega
  have h2 : ((u + 256 * v) &&& (p + 256 * q)) / 2 ^ 8 = v &&& q := by
    rw [Nat.and_div_two_pow]
    congr 1 <;> omega
  omega
def s1 (b : Nat) : Nat := (b / 2 &&& 85) + (b &&& 85)
def s2 (c : Nat) : Nat := (c / 4 &&& 51) + (c &&& 51)
theorem byte1 : ∀ b : Fin 256, ∀ t : Fin 2, ((b.val / 2 + 128 * t.val) &&& 85) = (b.val / 2 &&& 85) := by decide +kernel
theorem byte2 : ∀ b : Fin 256, ∀ t : Fin 4, ((b.val / 4 + 64 * t.val) &&& 51) = (b.val / 4 &&& 51) := by decide +kernel
theorem byte3 : ∀ b : Fin 256, ∀ t : Fin 5, s1 b.val < 256 ∧ s2 (s1 b.val) < 256 ∧ s2 (s1 b.val) % 16 < 5 ∧ s2 (s1 b.val) / 16 + 16 * t.val + s2 (s1 b.val) < 256 ∧ ((s2 (s1 b.val) / 16 + 16 * t.val + s2 (s1 b.val)) &&& 15) = dgF 8 b.val ∧ dgF 8 b.val ≤ 8 := by decide +kernel
theorem byte4 : ∀ b : Fin 16, dgF 8 b.val = dgF 4 b.val := by decide +kernel
/-- The first two sums, of three bytes. -/
theorem sum1 {b0 b1 b2 : Nat} (h0 : b0 < 256) (h1 : b1 < 256) (h2 : b2 < 256) :
    ((b0 + 256 * (b1 + 256 * b2)) / 2 &&& 6148914691236517205) + ((b0 + 256 * (b1 + 256 * b2)) &&& 6148914691236517205) = s1 b0 + 256 * (s1 b1 + 256 * s1 b2) := by
  have m0 : 6148914691236517205 = 85 + 256 * (85 + 256 * (85 + 256 * 366503875925)) := by decide
  have e : (b0 + 256 * (b1 + 256 * b2)) / 2 = (b0 / 2 + 128 * (b1 % 2)) + 256 * ((b1 / 2 + 128 * (b2 % 2)) + 256 * ((b2 / 2 + 128 * 0) + 256 * 0)) := by omega
  have e' : b0 + 256 * (b1 + 256 * b2) = b0 + 256 * (b1 + 256 * (b2 + 256 * 0)) := by omega
  rw [e, e', m0]
  rw [land_split (by omega) (by omega), land_split (by omega) (by omega), land_split (by omega) (by omega), land_split (by omega) (by omega), land_split (by omega) (by omega), land_split (by omega) (by omega)]
  rw [byte1 ⟨b0, h0⟩ ⟨b1 % 2, by omega⟩, byte1 ⟨b1, h1⟩ ⟨b2 % 2, by omega⟩, byte1 ⟨b2, h2⟩ ⟨0, by omega⟩]
  simp only [Nat.zero_and]
  unfold s1
  omega
theorem sum2 {b0 b1 b2 : Nat} (h0 : b0 < 256) (h1 : b1 < 256) (h2 : b2 < 256) :
    ((b0 + 256 * (b1 + 256 * b2)) / 4 &&& 3689348814741910323) + ((b0 + 256 * (b1 + 256 * b2)) &&& 3689348814741910323) = s2 b0 + 256 * (s2 b1 + 256 * s2 b2) := by
  have m0 : 3689348814741910323 = 51 + 256 * (51 + 256 * (51 + 256 * 219902325555)) := by decide
  have e : (b0 + 256 * (b1 + 256 * b2)) / 4 = (b0 / 4 + 64 * (b1 % 4)) + 256 * ((b1 / 4 + 64 * (b2 % 4)) + 256 * ((b2 / 4 + 64 * 0) + 256 * 0)) := by omega
  have e' : b0 + 256 * (b1 + 256 * b2) = b0 + 256 * (b1 + 256 * (b2 + 256 * 0)) := by omega
  rw [e, e', m0]
  rw [land_split (by omega) (by omega), land_split (by omega) (by omega), land_split (by omega) (by omega), land_split (by omega) (by omega), land_split (by omega) (by omega), land_split (by omega) (by omega)]
  rw [byte2 ⟨b0, h0⟩ ⟨b1 % 4, by omega⟩, byte2 ⟨b1, h1⟩ ⟨b2 % 4, by omega⟩, byte2 ⟨b2, h2⟩ ⟨0, by omega⟩]
  simp only [Nat.zero_and]
  unfold s2
  omega
theorem sum3 {b0 b1 b2 : Nat} (h0 : b0 < 256) (h1 : b1 < 256) (h2 : b2 < 256) :
    (((s2 (s1 b0) + 256 * (s2 (s1 b1) + 256 * s2 (s1 b2))) / 16 + (s2 (s1 b0) + 256 * (s2 (s1 b1) + 256 * s2 (s1 b2)))) &&& 1085102592571150095) = dgF 8 b0 + 256 * (dgF 8 b1 + 256 * dgF 8 b2) := by
  have m0 : 1085102592571150095 = 15 + 256 * (15 + 256 * (15 + 256 * 64677154575)) := by decide
  obtain ⟨_, p2, p3, _, _, _⟩ := byte3 ⟨b0, h0⟩ ⟨0, by omega⟩
  obtain ⟨_, q2, q3, _, _, _⟩ := byte3 ⟨b1, h1⟩ ⟨0, by omega⟩
  obtain ⟨_, r2, r3, _, _, _⟩ := byte3 ⟨b2, h2⟩ ⟨0, by omega⟩
  obtain ⟨_, _, _, p4, p5, _⟩ := byte3 ⟨b0, h0⟩ ⟨s2 (s1 b1) % 16, q3⟩
  obtain ⟨_, _, _, q4, q5, _⟩ := byte3 ⟨b1, h1⟩ ⟨s2 (s1 b2) % 16, r3⟩
  obtain ⟨_, _, _, r4, r5, _⟩ := byte3 ⟨b2, h2⟩ ⟨0, by omega⟩
  simp only at p2 p3 q2 q3 r2 r3 p4 p5 q4 q5 r4 r5
  generalize s2 (s1 b0) = d0 at *
  generalize s2 (s1 b1) = d1 at *
  generalize s2 (s1 b2) = d2 at *
  have e : (d0 + 256 * (d1 + 256 * d2)) / 16 + (d0 + 256 * (d1 + 256 * d2)) = (d0 / 16 + 16 * (d1 % 16) + d0) + 256 * ((d1 / 16 + 16 * (d2 % 16) + d1) + 256 * ((d2 / 16 + 16 * 0 + d2) + 256 * 0)) := by omega
  rw [e, m0, land_split p4 (by omega), land_split q4 (by omega), land_split r4 (by omega), p5, q5, r5]
  simp only [Nat.zero_and]
  omega
theorem digits3 {b0 b1 b2 : Nat} (h0 : b0 < 256) (h1 : b1 < 256) (h2 : b2 < 16) : dgF 20 (b0 + 256 * (b1 + 256 * b2)) = dgF 8 b0 + dgF 8 b1 + dgF 8 b2 := by
  have e1 := dgF_split 8 12 b0 (b1 + 256 * b2) h0
  have e2 := dgF_split 8 4 b1 b2 h1
  have e3 := byte4 ⟨b2, h2⟩
  simp only at e3
  rw [show (8 : Nat) + 12 = 20 from rfl, show (2 : Nat) ^ 8 = 256 from rfl] at e1
  rw [show (8 : Nat) + 4 = 12 from rfl, show (2 : Nat) ^ 8 = 256 from rfl] at e2
  rw [e1, e2, e3]
  omega

theorem wrap_small (g : Nat) (h : g < 1000000) : IntKind.u64.wrap ((g : Int) + (g : Int) / 4294967296) = (g : Int) := by rw [IntKind.wrap_u64]; omega
theorem div_small (g : Nat) (h : g < 1000000) : (g : Int) / 4294967296 = 0 := by omega
set_option maxRecDepth 100000 in
set_option maxHeartbeats 2000000 in
theorem ones_any (x : Nat) (w : World) (hx : x < 1048576) :
    Calls Try.prog 87 #[.int .u64 (x : Int)] w fun e w' => e = .returned (.int .i64 (dgF 20 x : Nat)) ∧ w' = w := by
  obtain ⟨b0, hb0, b1, hb1, b2, hb2, rfl⟩ : ∃ b0, b0 < 256 ∧ ∃ b1, b1 < 256 ∧ ∃ b2, b2 < 16 ∧ x = b0 + 256 * (b1 + 256 * b2) := ⟨x % 256, by omega, x / 256 % 256, by omega, x / 65536, by omega, by omega⟩
  rw [digits3 hb0 hb1 hb2]
  have s_1 := sum1 hb0 hb1 (show b2 < 256 by omega)
  have p0 := byte3 ⟨b0, hb0⟩ ⟨0, by omega⟩
  have p1 := byte3 ⟨b1, hb1⟩ ⟨0, by omega⟩
  have p2 := byte3 ⟨b2, by omega⟩ ⟨0, by omega⟩
  simp only at p0 p1 p2
  have s_2 := sum2 p0.1 p1.1 p2.1
  have s_3 := sum3 hb0 hb1 (show b2 < 256 by omega)
  have d0 := p0.2.2.2.2.2
  have d1 := p1.2.2.2.2.2
  have d2 := p2.2.2.2.2.2
  have u0 := p0.2.1
  have u1 := p1.2.1
  have u2 := p2.2.1
  have v0 := p0.1
  have v1 := p1.1
  have v2 := p2.1
  clear p0 p1 p2
  generalize hP0 : dgF 8 b0 = P0 at *
  generalize hP1 : dgF 8 b1 = P1 at *
  generalize hP2 : dgF 8 b2 = P2 at *
  obtain ⟨x, hxe⟩ : ∃ x, b0 + 256 * (b1 + 256 * b2) = x := ⟨_, rfl⟩
  rw [hxe] at hx s_1 ⊢
  obtain ⟨C, hC⟩ : ∃ C, s1 b0 + 256 * (s1 b1 + 256 * s1 b2) = C := ⟨_, rfl⟩
  obtain ⟨D, hD⟩ : ∃ D, s2 (s1 b0) + 256 * (s2 (s1 b1) + 256 * s2 (s1 b2)) = D := ⟨_, rfl⟩
  have hCb : C < 16777216 := by omega
  have hDb : D < 16777216 := by omega
  rw [hC] at s_1 s_2
  rw [hD] at s_2 s_3
  clear hC hD hxe hb0 hb1 hb2 u0 u1 u2 v0 v1 v2 hP0 hP1 hP2
  obtain ⟨A, hA⟩ : ∃ A, x / 2 &&& 6148914691236517205 = A := ⟨_, rfl⟩
  obtain ⟨B, hB⟩ : ∃ B, x &&& 6148914691236517205 = B := ⟨_, rfl⟩
  obtain ⟨A2, hA2⟩ : ∃ A, C / 4 &&& 3689348814741910323 = A := ⟨_, rfl⟩
  obtain ⟨B2, hB2⟩ : ∃ B, C &&& 3689348814741910323 = B := ⟨_, rfl⟩
  have f1 : bits .and .u64 ((x : Int) / 2) 6148914691236517205 = (A : Int) := by
    have h := bits_and_u64_nat (x / 2) 6148914691236517205 (by omega) (by omega)
    rw [hA] at h
    exact h
  have f2 : bits .and .u64 (x : Int) 6148914691236517205 = (B : Int) := by
    have h := bits_and_u64_nat x 6148914691236517205 (by omega) (by omega)
    rw [hB] at h
    exact h
  have f4 : bits .and .u64 ((C : Int) / 4) 3689348814741910323 = (A2 : Int) := by
    have h := bits_and_u64_nat (C / 4) 3689348814741910323 (by omega) (by omega)
    rw [hA2] at h
    exact h
  have f5 : bits .and .u64 (C : Int) 3689348814741910323 = (B2 : Int) := by
    have h := bits_and_u64_nat C 3689348814741910323 (by omega) (by omega)
    rw [hB2] at h
    exact h
  have f7 : bits .and .u64 ((D : Int) / 16 + (D : Int)) 1085102592571150095 = ((P0 + 256 * (P1 + 256 * P2) : Nat) : Int) := by
    have h := bits_and_u64_nat (D / 16 + D) 1085102592571150095 (by omega) (by omega)
    rw [s_3] at h
    exact h
  rw [hA, hB] at s_1
  rw [hA2, hB2] at s_2
  have f3 : (A : Int) + (B : Int) = (C : Int) := by omega
  have f6 : (A2 : Int) + (B2 : Int) = (D : Int) := by omega
  have w1 : IntKind.u64.wrap (C : Int) = (C : Int) := by rw [IntKind.wrap_u64]; omega
  have w2 : IntKind.u64.wrap (D : Int) = (D : Int) := by rw [IntKind.wrap_u64]; omega
  have w3 : IntKind.u64.wrap ((D : Int) / 16 + (D : Int)) = (D : Int) / 16 + (D : Int) := by rw [IntKind.wrap_u64]; omega
  obtain ⟨E, hE⟩ : ∃ E, P0 + 256 * (P1 + 256 * P2) = E := ⟨_, rfl⟩
  rw [hE] at f7
  have w4 : IntKind.u64.wrap ((E : Int) + (E : Int) / 256) = (E : Int) + (E : Int) / 256 := by rw [IntKind.wrap_u64]; omega
  obtain ⟨F, hF⟩ : ∃ F, E + E / 256 = F := ⟨_, rfl⟩
  have f8 : (E : Int) + (E : Int) / 256 = (F : Int) := by omega
  have w5 : IntKind.u64.wrap ((F : Int) + (F : Int) / 65536) = (F : Int) + (F : Int) / 65536 := by rw [IntKind.wrap_u64]; omega
  obtain ⟨G, hG⟩ : ∃ G, F + F / 65536 = G := ⟨_, rfl⟩
  have f9 : (F : Int) + (F : Int) / 65536 = (G : Int) := by omega
  have k1 : E / 256 = P1 + 256 * P2 := by omega
  have k2 : F = (P0 + P1) + 256 * ((P1 + P2) + 256 * P2) := by omega
  have k3 : F / 65536 = P2 := by omega
  have k4 : G = (P0 + P1 + P2) + 256 * ((P1 + P2) + 256 * P2) := by omega
  have hGb : G < 1000000 := by omega
  have w6 := wrap_small G hGb
  have hG4 := div_small G hGb
  have f10 : bits .and .i64 (G : Int) 127 = ((P0 + P1 + P2 : Nat) : Int) := by
    have h := (bits_nat .i64 63 (by decide) (fun n h0 h1 => IntWalk.i64_in _ (by omega)) G 127 (by omega) (by decide)).1
    have e : G &&& 127 = P0 + P1 + P2 := by
      have := Nat.and_two_pow_sub_one_eq_mod G 7
      rw [show (2 : Nat) ^ 7 - 1 = 127 from rfl, show (2 : Nat) ^ 7 = 128 from rfl] at this
      rw [this, k4]
      omega
    rw [e] at h
    exact h
  clear s_1 s_2 s_3 hA hB hA2 hB2 hF hG hE k1 k2 k3 k4
  go_enter Try.func87, Try.ntmps87
  go_wp2
  go_ret
  exact ⟨by simp, rfl⟩
theorem onesCount_any (x : Nat) (w : World) (hx : x < 1048576) :
    Calls Try.prog 69 #[.int .u64 (x : Int)] w fun e w' => e = .returned (.int .i64 (dgF 20 x : Nat)) ∧ w' = w := by
  have H := Lib.hid (ones_any x w hx)
  go_enter Try.func69, Try.ntmps69
  go_wp2_with (go_at_call 87; refine H.out.mono ?_; rintro e w' ⟨rfl, rfl⟩)
  go_ret
  exact ⟨rfl, rfl⟩

theorem dgF_zero : ∀ f, dgF f 0 = 0
  | 0 => rfl
  | f + 1 => by rw [dgF_succ, Nat.zero_div, dgF_zero f]
theorem dgF_le : ∀ f n, dgF f n ≤ f
  | 0, _ => Nat.le_refl _
  | f + 1, n => by rw [dgF_succ]; have := dgF_le f (n / 2); omega
def dgN (n : Int) : Int := if isNum n then (dgF 20 n.toNat : Nat) else 0
theorem dgN_true {n : Int} (h : isNum n = true) : dgN n = (dgF 20 n.toNat : Nat) := by unfold dgN; rw [if_pos h]
theorem dgN_false {n : Int} (h : isNum n = false) : dgN n = 0 := by unfold dgN; rw [h]; rfl

end Go.Proofs.Ytppahohakiidmaa
/- Slices of integers that are cut at the head and appended to, in own blocks; rows that lie apart. -/
namespace Go.Proofs.Ytppahohakiidmaa
open Go.RowKit

/-- A slice of integers anywhere in an own block. -/
def QI (w : World) (B g off n cap : Nat) (l : List Int) : Prop :=
  l.length = n ∧ n ≤ cap ∧ B ≤ g ∧ ∃ cur : Array Value, w.heap[g]? = some (.cells cur 3 (0, 0)) ∧ off + cap ≤ cur.size ∧ ∀ j, j < n → cur[off + j]? = some (I (l.getD j 0))
section
variable {w w' : World} {B B' g off n cap : Nat} {l : List Int}
theorem QI.lt (h : QI w B g off n cap l) : g < w.heap.size := by
  obtain ⟨_, _, _, cur, hg, _⟩ := h
  exact (Array.getElem?_eq_some_iff.1 hg).1
theorem QI.at (h : QI w B g off n cap l) {j : Nat} (hj : j < n) : w.cell? ⟨g, off + j, none⟩ = some (I (l.getD j 0)) := by
  obtain ⟨_, _, _, cur, hg, _, hc⟩ := h
  rw [cell_of_row w g _ cur _ _ hg]
  exact hc j hj
theorem QI.keep (h : QI w B g off n cap l) (hk : w'.heap[g]? = w.heap[g]?) : QI w' B g off n cap l := by
  obtain ⟨h1, h2, h3, cur, hg, h4⟩ := h
  exact ⟨h1, h2, h3, cur, hk.trans hg, h4⟩
theorem QI.below (h : QI w B g off n cap l) (hb : Below w.heap.size w w') : QI w' B g off n cap l := h.keep (hb.block g h.lt)
theorem QI.grown {row : Option Nat} (h : QI w B g off n cap l) (hg : w.grownBy w' row) (hne : row ≠ some g) : QI w' B g off n cap l := h.keep (hg.block g h.lt (Ne.symm hne))
theorem QI.tail {x : Int} (h : QI w B g off (n + 1) cap (x :: l)) : (2 ≤ cap → QI w B g (off + 1) n (cap - 1) l) ∧ (cap = 1 → n = 0 ∧ l = [] ∧ QI w B g off 0 0 []) := by
  obtain ⟨h1, h2, h3, cur, hg, h4, h5⟩ := h
  refine ⟨fun _ => ⟨by simpa using h1, by omega, h3, cur, hg, by omega, fun j hj => ?_⟩, fun hc => ?_⟩
  · have := h5 (j + 1) (by omega)
    rw [show off + (j + 1) = off + 1 + j by omega] at this
    simpa using this
  · have hn : n = 0 := by omega
    subst hn
    exact ⟨rfl, by simpa using h1, rfl, by omega, h3, cur, hg, by omega, fun j hj => absurd hj (by omega)⟩
theorem QI.of_own {v : Value} (h : w.ownsRow B 3 1 v n (l.map I)) (hn : 0 < n) : ∃ g cap, v = .slice (some ⟨g, 0, none⟩) n cap ∧ QI w B g 0 n cap l := by
  rcases h.2 with ⟨_, h0⟩ | ⟨g, cap, cur, hv, hb, hg, hnc, _, hcs, htake⟩
  · omega
  · have hl : l.length = n := by have := h.1; simpa using this
    refine ⟨g, cap, hv, hl, hnc, hb, cur, hg, by omega, fun j hj => ?_⟩
    have e : (cur.toList.take (n * 1))[j]? = (l.map I)[j]? := by rw [htake]
    rw [List.getElem?_take_of_lt (by omega), List.getElem?_map, List.getElem?_eq_getElem (l := l) (by omega)] at e
    rw [Nat.zero_add, ← Array.getElem?_toList, e, List.getD_eq_getElem?_getD, List.getElem?_eq_getElem (l := l) (by omega)]
    rfl
theorem QI.store (h : QI w B g off n cap l) (hc : n + 1 ≤ cap) (u : Int) : QI (w.setCell ⟨g, off + n, none⟩ (I u)) B g off (n + 1) cap (l ++ [u]) := by
  obtain ⟨h1, h2, h3, cur, hg, h4, h5⟩ := h
  refine ⟨by simp [h1], hc, h3, _, heap_setCell_same w g (off + n) cur _ (I u) hg, by simpa using h4, fun j hj => ?_⟩
  rw [Array.getElem?_setIfInBounds]
  rcases Nat.lt_or_eq_of_le (Nat.lt_succ_iff.1 hj) with hlt | rfl
  · rw [if_neg (by omega), h5 j hlt, List.getD_eq_getElem?_getD, List.getD_eq_getElem?_getD, List.getElem?_append_left (by omega)]
  · rw [if_pos rfl, if_pos (by omega), List.getD_eq_getElem?_getD, ← h1, List.getElem?_concat_length]
    rfl
end

section
variable {ops : Array Oper} {o : Oper} {a : Act} {Q : Exit → Act → World → Prop} {w : World}
/-- append(v, x) of one integer onto such a slice. -/
theorem wpList_appQ {rest : List Oper} (hgd : o.guard = none) (s x : Operand)
    (ho : o.op = .call { callee := .builtin .append, args := #[s, x], argTypes := #[22, 22] })
    (B g off n cap : Nat) (l : List Int) (hs : a.eval s = .slice (some ⟨g, off, none⟩) n cap) (hq : QI w B g off n cap l) (b c : Nat) (u : Int) (hx : a.eval x = .slice (some ⟨b, 0, none⟩) 1 c)
    (hu : w.cell? ⟨b, 0, none⟩ = some (I u)) (hn : n ≤ 4000000) (hB : B ≤ w.heap.size)
    (h : ∀ g' off' cap' w', QI w' B g' off' (n + 1) cap' (l ++ [u]) → w.grownBy w' (some g) → Below B w w' → (g' = g ∨ w.heap.size ≤ g') → wpList Try.prog ops Q rest (a.put o.dst (.slice (some ⟨g', off', none⟩) (n + 1) cap')) w') :
    wpList Try.prog ops Q (o :: rest) a w := by
  obtain ⟨i0, hi, hz0, hz1, hz2⟩ := info_parts info_int
  have hBg : B ≤ g := hq.2.2.1
  have hlen : l.length = n := hq.1
  have hgl := hq.lt
  refine wpList_append_arg w hgd s x 22 ho 3 i0 _ 1 8 Try.underlying22 hi hz0 hz1 hz2 rfl (by omega) g off n cap (l.map I) hs (by simpa using hlen) ?_ ⟨b, 0, none⟩ 1 c [I u] hx rfl ?_ ?_ ?_ (by unfold maxLen; omega) (by omega) ?_ ?_
  · intro j y hj
    have hjn : j < n := by have := (List.getElem?_eq_some_iff.1 hj).1; simpa [hlen] using this
    rw [hq.at hjn]
    rw [List.getElem?_map, List.getElem?_eq_getElem (by omega)] at hj
    rw [List.getD_eq_getElem?_getD, List.getElem?_eq_getElem (by omega)]
    simpa using hj
  · intro j y hj
    match j, hj with
    | 0, hj => simp at hj; subst hj; simpa [Addr.add] using hu
  · intro y hy; simp at hy; subst hy; rfl
  · intro hroom j hj
    have hj0 : j = 0 := by simpa using hj
    subst hj0
    obtain ⟨_, _, _, cur, hg, h4, _⟩ := hq
    refine ⟨?_, frozen_of_row w g _ cur _ hg⟩
    rw [cell_of_row w g _ cur _ _ hg, Array.getElem?_eq_getElem (by omega)]
    rfl
  · intro hroom
    have e : w.setCells g (off + n * 1) [I u] = w.setCell ⟨g, off + n, none⟩ (I u) := by rw [Nat.mul_one]; rfl
    rw [e]
    exact h g off cap _ (hq.store hroom u) (grown_set (World.grownBy.refl _ _) _) ((Below.refl _ _).setCell hBg _) (.inl rfl)
  · intro hfull v' w' hown hg
    have hown' : w'.ownsRow w.heap.size 3 1 v' (n + 1) ((l ++ [u]).map I) := by rw [List.map_append]; exact hown
    obtain ⟨g', cap', rfl, hq'⟩ := QI.of_own hown' (by omega)
    have hg2 : w.grownBy w' (some g) := ⟨hg.os, hg.tape, hg.output, hg.size, fun k hk _ => hg.block k hk (by simp)⟩
    refine h g' 0 cap' w' ⟨hq'.1, hq'.2.1, by have := hq'.2.2.1; omega, hq'.2.2.2⟩ hg2 ((Below.refl _ _).grown hg hB fun k hk => by cases hk) (.inr hq'.2.2.1)

/-- append(v, x) of one integer onto an own slice, and where the new one lies. -/
theorem wpList_app_intH {rest : List Oper} (hgd : o.guard = none) (s x : Operand)
    (ho : o.op = .call { callee := .builtin .append, args := #[s, x], argTypes := #[22, 22] })
    (B n : Nat) (v : Value) (l : List Int) (hs : a.eval s = v) (hown : OwI w B v l) (hl : l.length = n) (b c : Nat) (u : Int) (hx : a.eval x = .slice (some ⟨b, 0, none⟩) 1 c)
    (hu : w.cell? ⟨b, 0, none⟩ = some (I u)) (hn : n ≤ 4000000) (hB : B ≤ w.heap.size)
    (h : ∀ g cap w', OwI w' B (.slice (some ⟨g, 0, none⟩) (n + 1) cap) (l ++ [u]) → w.grownBy w' v.ownBlock → Below B w w' → (v.ownBlock = some g ∨ g = w.heap.size) → wpList Try.prog ops Q rest (a.put o.dst (.slice (some ⟨g, 0, none⟩) (n + 1) cap)) w') :
    wpList Try.prog ops Q (o :: rest) a w := by
  subst hl
  obtain ⟨i0, hi, hz0, hz1, hz2⟩ := info_parts info_int
  refine wpList_append_lies w hgd s x _ ho B 3 i0 _ 1 8 Try.underlying22 hi hz0 hz1 hz2 rfl (by omega) v l.length (l.map I) hs hown ⟨b, 0, none⟩ 1 c [I u] hx rfl ?_ ?_ (by omega) (by unfold maxLen; omega) (by omega) hB w.heap.size rfl ?_
  · intro j y hj
    match j, hj with
    | 0, hj => simp at hj; subst hj; simpa [Addr.add] using hu
  · intro y hy; simp at hy; subst hy; rfl
  · intro g cap w' hown' hg hat _
    exact h g cap w' (by simpa [OwI] using hown') hg (below_of_own hown hB hg) hat
end

/-- Blocks apart. -/
def Apt (v v' : Value) : Prop := ∀ k, v.ownBlock = some k → v'.ownBlock ≠ some k
theorem Apt.kept {w w' : World} {B e sz n : Nat} {v v' : Value} {xs : List Value} (h : w.ownsRow B e sz v n xs) (ha : Apt v v') (hg : w.grownBy w' v'.ownBlock) : w'.ownsRow B e sz v n xs := by
  refine h.kept hg ?_
  cases hv : v.ownBlock with
  | none => exact .inl rfl
  | some k => exact .inr fun e => ha k hv e.symm
theorem Apt.next {w : World} {B e sz n g n' c' : Nat} {v v' : Value} {xs : List Value} (h : w.ownsRow B e sz v n xs) (ha : Apt v v') (hat : v'.ownBlock = some g ∨ w.heap.size ≤ g) : Apt v (.slice (some ⟨g, 0, none⟩) n' c') := by
  intro k hk e
  have hkg : g = k := by simpa [Value.ownBlock] using e
  subst hkg
  rcases hat with hat | hat
  · exact ha g hk hat
  · have := own_block h g hk
    omega
/-- A store below the base. -/
theorem own_lo {w : World} {B e sz n g o : Nat} {v : Value} {xs : List Value} (h : w.ownsRow B e sz v n xs) (hg : g < B) (u : Value) : (w.setCell ⟨g, o, none⟩ u).ownsRow B e sz v n xs := by
  refine h.kept (grown_set (World.grownBy.refl w _) u) ?_
  cases hv : v.ownBlock with
  | none => exact .inl rfl
  | some k =>
    have := own_block h k hv
    refine .inr fun e => ?_
    simp at e
    omega
theorem own_one {w : World} {B : Nat} (x : Int) (hB : B ≤ w.heap.size) : OwI (w.alloc (.cells #[.int .i64 x] 3)) B (.slice (some ⟨w.heap.size, 0, none⟩) 1 1) [x] := by
  have h := World.ownsRow_lit (base := B) (e := 3) (size := 1) w #[.int .i64 x] 1 hB (by unfold maxLen; omega) (by simp)
  unfold OwI
  simpa using h
theorem zeros_ownB {w : World} {B : Nat} (n : Nat) (hn : n ≤ 1000) (hB : B ≤ w.heap.size) :
    OwI (w.alloc (.cells (madeCells #[Value.int .i64 0] n) 3)) B (.slice (some ⟨w.heap.size, 0, none⟩) n n) (List.replicate n (0 : Int)) := by
  have h := World.ownsRow_lit (base := B) (e := 3) (size := 1) w (madeCells #[Value.int .i64 0] n) n hB (by unfold maxLen; omega) (by simp [size_madeCells])
  unfold OwI
  simp only [List.length_replicate]
  rw [toList_madeCells_one] at h
  rw [List.map_replicate]
  exact h
end Go.Proofs.Ytppahohakiidmaa
/- Binary digits, and the bounds that they give. -/
namespace Go.Proofs.Ytppahohakiidmaa
open Go.RowKit

def bitsF : Nat → Nat → List Int
  | 0, _ => []
  | f + 1, n => if n = 0 then [] else bitsF f (n / 2) ++ [((n % 2 : Nat) : Int)]
theorem bitsF_zero : ∀ f, bitsF f 0 = []
  | 0 => rfl
  | _ + 1 => rfl
theorem bitsF_succ {f n : Nat} (h : 0 < n) : bitsF (f + 1) n = bitsF f (n / 2) ++ [((n % 2 : Nat) : Int)] := if_neg (by omega)
theorem bitsF_len : ∀ f n, (bitsF f n).length ≤ f
  | 0, _ => Nat.le_refl _
  | f + 1, n => by
    unfold bitsF
    split
    · simp
    · rw [List.length_append, List.length_singleton]
      have := bitsF_len f (n / 2)
      omega
theorem bits_facts : ∀ n : Fin 101, (bitsF 7 n.val).length = Lib.bitLen n.val ∧ (bitsF 7 n.val).foldl (· + ·) 0 = ((dgF 20 n.val : Nat) : Int) ∧ (1 ≤ n.val → 1 ≤ dgF 20 n.val ∧ dgF 20 n.val ≤ 7 ∧ 1 ≤ Lib.bitLen n.val ∧ Lib.bitLen n.val ≤ 7) := by decide +kernel
theorem least_facts : ∀ o : Fin 8, Lib.bitLen (o.val - 1) ≤ 3 ∧ (o.val ≤ 2 ^ Lib.bitLen (o.val - 1)) ∧ ∀ b : Fin 4, b.val < Lib.bitLen (o.val - 1) → 2 ^ b.val < o.val := by decide +kernel
theorem bits_digits (n : Nat) (h : n ≤ 100) : ∀ x ∈ bitsF 7 n, 0 ≤ x ∧ x ≤ 1 := by
  have : ∀ n : Fin 101, ∀ x ∈ bitsF 7 n.val, 0 ≤ x ∧ x ≤ 1 := by decide +kernel
  exact this ⟨n, by omega⟩

set_option maxRecDepth 100000 in
set_option maxHeartbeats 2000000 in
theorem shBits_any (N : Nat) (w : World) (hN : N ≤ 100) :
    Calls Try.prog 68 #[.int .i64 (N : Int)] w fun e w' => ∃ A' c', e = .returned (.slice A' (bitsF 7 N).length c') ∧ OwI w' w.heap.size (.slice A' (bitsF 7 N).length c') (bitsF 7 N) ∧ Below w.heap.size w w' := by
  obtain ⟨T, hT⟩ : ∃ T, bitsF 7 N = T := ⟨_, rfl⟩
  rw [hT]
  have HT := Lib.hid hT
  clear hT
  go_enter Try.func68, Try.ntmps68
  go_wp2
  go_loopw [0, 3] (fun nv ov wr => ∃ (m f k : Nat) (l : List Int) (A1 : Option Addr) (c1 : Nat), nv = .int .i64 (m : Int) ∧ ov = .slice A1 k c1 ∧ k = l.length ∧ l.length + f = 7 ∧ m < 2 ^ f ∧ bitsF f m ++ l = T ∧ OwI wr w.heap.size (.slice A1 k c1) l ∧ Below w.heap.size w wr) (fun nv _ _ => (intOf nv).toNat)
  case atStart => exact ⟨N, 7, 0, [], none, 0, rfl, rfl, rfl, rfl, by omega, by rw [List.append_nil]; exact HT.out, OwI.nil _ _, Below.refl _ _⟩
  case round =>
    obtain ⟨m, f, k, l, A1, c1, rfl, rfl, hk, hf, hm, hs, hown, hbel⟩ := hrel
    have HS := Lib.hid hs
    have OWN := Lib.hid hown
    have BEL := Lib.hid hbel
    have HK := Lib.hid hk
    have hs1 : w.heap.size ≤ wr.heap.size := hbel.size
    have hm7 : m < 128 := Nat.lt_of_lt_of_le hm (Nat.pow_le_pow_right (n := 2) (by decide) (show f ≤ 7 by omega))
    clear hs hown hbel hk
    by_cases h0 : 0 < m
    · have i0 : (0 : Int) < (m : Int) := by omega
      obtain ⟨g, rfl⟩ : ∃ g, f = g + 1 := by
        cases f with
        | zero => simp at hm; omega
        | succ g => exact ⟨g, rfl⟩
      have hg : m / 2 < 2 ^ g := by rw [Nat.pow_succ] at hm; omega
      have HG := Lib.hid hg
      have SUM := Lib.hid (show bitsF g (m / 2) ++ (((m % 2 : Nat) : Int) :: l) = T by rw [← HS.out, bitsF_succ h0, List.append_assoc]; rfl)
      have hk7 : k ≤ 7 := by rw [HK.out]; omega
      clear hg hm
      go_wp2_with (at_builtin; refine list_step (fun K hK => ?_); refine step_appM Try.underlying22 info_int rfl (by omega) (by omega) rfl (.tmp 10) (.tmp 11) rfl w.heap.size 1 _ [I ((m % 2 : Nat) : Int)] rfl (show World.ownsRow _ _ _ _ _ _ _ from own_one ((m % 2 : Nat) : Int) (by omega)) A1 k c1 (l.map I) rfl (show Rd _ _ 1 A1 k _ from by have h := (OWN.out.alloc (.cells #[.int .i64 ((m % 2 : Nat) : Int)] 3)); exact Rd.of_own (by have h2 := h; unfold OwI at h2; rw [← HK.out] at h2; exact h2)) (ints_one _) (by omega) (by simp; omega) ?_; intro A2 c2 w2 hown2 hg2 hbel2; go_simp; refine hK _ _ ?_; clear hK K)
      go_roundw
      case rel =>
        refine ⟨m / 2, g, 1 + k, ((m % 2 : Nat) : Int) :: l, A2, c2, by go_num, rfl, by rw [HK.out, List.length_cons]; omega, by rw [List.length_cons]; omega, HG.out, SUM.out, ?_, (BEL.out.alloc hs1 _).trans hbel2⟩
        unfold OwI
        rw [List.length_cons, show l.length + 1 = 1 + k by rw [HK.out]; omega]
        exact hown2
      case measure => simp [intOf]; omega
    · have e0 : m = 0 := by omega
      subst e0
      have hT : l = T := by rw [← HS.out, bitsF_zero]; rfl
      subst hT
      have hk' := HK.out
      subst hk'
      go_wp2
      go_ret
      exact ⟨A1, c1, rfl, OWN.out, BEL.out⟩

set_option maxRecDepth 100000 in
set_option maxHeartbeats 2000000 in
theorem shOnes_any (N : Nat) (w : World) (hN : N ≤ 100) :
    Calls Try.prog 67 #[.int .i64 (N : Int)] w fun e w' => e = .returned (.int .i64 (dgF 20 N : Nat)) ∧ Below w.heap.size w w' := by
  have hB := shBits_any N w hN
  have hsum := (bits_facts ⟨N, by omega⟩).2.1
  have hdig := bits_digits N hN
  have hlen := bitsF_len 7 N
  simp only [] at hsum
  obtain ⟨l, hl⟩ : ∃ l, bitsF 7 N = l := ⟨_, rfl⟩
  rw [hl] at hB hsum hdig hlen
  have HB := Lib.hid hB
  have HS := Lib.hid hsum
  have HD := Lib.hid hdig
  clear hB hsum hdig hl
  go_enter Try.func67, Try.ntmps67
  go_wp2_with (go_at_call 68; refine HB.out.mono ?_; rintro e w2 ⟨A', c', rfl, hown, hb2⟩)
  have OWN := Lib.hid hown
  have HB2 := Lib.hid hb2
  have hs2 : w.heap.size ≤ w2.heap.size := hb2.size
  clear hown hb2
  go_loopw [3, 9] (fun sv iv wr => ∃ (k : Nat) (s : Int), k ≤ l.length ∧ iv = .int .i64 (k : Int) ∧ sv = .int .i64 s ∧ (l.take k).foldl (· + ·) 0 = s ∧ 0 ≤ s ∧ s ≤ (k : Int) ∧ wr = w2) (fun _ iv _ => l.length - (intOf iv).toNat)
  case atStart => exact ⟨0, 0, by omega, rfl, rfl, rfl, by omega, by omega, rfl⟩
  case round =>
    obtain ⟨k, s, hk, rfl, rfl, hs, h0, h1, hwr⟩ := hrel
    subst hwr
    have SS := Lib.hid hs
    clear hs
    by_cases hlt : k < l.length
    · obtain ⟨g, off, rfl, hg, hc⟩ := OWN.out.rd.int hlt
      have hd := HD.out _ (List.getElem_mem hlt)
      obtain ⟨x, hx⟩ : ∃ x, l[k] = x := ⟨_, rfl⟩
      rw [hx] at hd hc
      have NX := Lib.hid (show (l.take (k + 1)).foldl (· + ·) 0 = s + x by rw [List.take_succ_eq_append_getElem hlt, List.foldl_append, SS.out, hx]; rfl)
      clear hx
      have hw1 : IntKind.i64.wrap (s + x) = s + x := IntWalk.i64_in _ (by omega)
      go_wp2
      go_roundw
      case rel => exact ⟨k + 1, s + x, by omega, by go_num, rfl, NX.out, by omega, by omega, by first | rfl | trivial⟩
      case measure => simp [intOf]; omega
    · have e : k = l.length := by omega
      subst e
      have E := Lib.hid (show s = ((dgF 20 N : Nat) : Int) by rw [← HS.out, ← SS.out, List.take_of_length_le (Nat.le_refl _)])
      go_wp2
      go_ret
      exact ⟨by rw [E.out]; rfl, HB2.out⟩

def isSh (n : Int) : Bool := inB n 1 100
theorem isSh_rng {n : Int} (h : isSh n = true) : 1 ≤ n ∧ n ≤ 100 := by
  unfold isSh inB at h
  simpa using h
theorem shNumber_any (n : Int) (w : World) : Calls Try.prog 49 #[.int .i64 n] w fun e w' => e = .returned (.bool (isSh n)) ∧ w = w' := by
  go_enter Try.func49, Try.ntmps49
  go_wp2_with (go_at_call 61; refine (l1In_any _ _ _ _).mono ?_; rintro e w' ⟨rfl, rfl⟩)
  go_ret
  exact ⟨rfl, rfl⟩
theorem isShort_any (n : Int) (w : World) : Calls Try.prog 53 #[.int .i64 n] w fun e w' => e = .returned (.bool (isSh n)) ∧ w = w' := by
  by_cases h1 : 1 ≤ n <;> by_cases h2 : n ≤ 100
  all_goals
    go_enter Try.func53, Try.ntmps53
    go_wp2
    go_ret
    exact ⟨ret_bool (by simp [isSh, inB, h1, h2]), rfl⟩

/-- The bounds. -/
def loN (n : Int) : Int := if isSh n then (Lib.bitLen n.toNat : Nat) - 1 + (Lib.bitLen (dgF 20 n.toNat - 1) : Nat) else 0
def hiN (n : Int) : Int := if isSh n then (Lib.bitLen n.toNat : Nat) + (dgF 20 n.toNat : Nat) - 2 else 0
theorem loN_true {n : Int} (h : isSh n = true) : loN n = (Lib.bitLen n.toNat : Nat) - 1 + (Lib.bitLen (dgF 20 n.toNat - 1) : Nat) := by unfold loN; rw [if_pos h]
theorem loN_false {n : Int} (h : isSh n = false) : loN n = 0 := by unfold loN; rw [h]; rfl
theorem hiN_true {n : Int} (h : isSh n = true) : hiN n = (Lib.bitLen n.toNat : Nat) + (dgF 20 n.toNat : Nat) - 2 := by unfold hiN; rw [if_pos h]
theorem hiN_false {n : Int} (h : isSh n = false) : hiN n = 0 := by unfold hiN; rw [h]; rfl

set_option maxRecDepth 100000 in
set_option maxHeartbeats 2000000 in
theorem specLo_any (n : Int) (w : World) : Calls Try.prog 38 #[.int .i64 n] w fun e w' => e = .returned (.tuple #[.int .i64 (loN n), .bool (isSh n)]) ∧ Below w.heap.size w w' := by
  have hN := shNumber_any n w
  cases hq : isSh n with
  | false =>
    rw [hq] at hN
    have HN := Lib.hid hN
    have Q := Lib.hid (loN_false hq)
    clear hN hq
    go_enter Try.func38, Try.ntmps38
    go_wp2_with (go_at_call 49; refine HN.out.mono ?_; rintro e w' ⟨rfl, rfl⟩)
    go_ret2
    exact ⟨by rw [Q.out]; rfl, Below.refl _ _⟩
  | true =>
    rw [hq] at hN
    have HN := Lib.hid hN
    have hr := isSh_rng hq
    obtain ⟨N, rfl⟩ : ∃ N : Nat, n = N := ⟨n.toNat, by omega⟩
    obtain ⟨f1, _, f3⟩ := bits_facts ⟨N, by omega⟩
    simp only [] at f1 f3
    obtain ⟨o1, o7, b1, b7⟩ := f3 (by omega)
    have hO := fun W => shOnes_any N W (by omega)
    have hBt := fun W => shBits_any N W (by omega)
    obtain ⟨g1, g2, g3⟩ := least_facts ⟨dgF 20 N, by omega⟩
    have hQ := loN_true hq
    rw [Int.toNat_natCast] at hQ
    simp only [] at g1 g2 g3
    rw [f1] at hBt
    obtain ⟨L, hL⟩ : ∃ L, Lib.bitLen N = L := ⟨_, rfl⟩
    obtain ⟨O, hOO⟩ : ∃ O, dgF 20 N = O := ⟨_, rfl⟩
    rw [hL] at hQ b1 b7 hBt
    rw [hOO] at hQ g1 g2 g3 o1 o7 hO
    obtain ⟨V, hV⟩ : ∃ V, Lib.bitLen (O - 1) = V := ⟨_, rfl⟩
    rw [hV] at hQ g1 g2 g3
    have HO := Lib.hid hO
    have HBt := Lib.hid hBt
    have Q := Lib.hid hQ
    have G2 := Lib.hid g2
    have G3 := Lib.hid g3
    clear hN hq hO hBt hQ g2 g3 f1 f3 hL hOO hV
    go_enter Try.func38, Try.ntmps38
    go_wp2_with (go_at_call 49; refine HN.out.mono ?_; rintro e w' ⟨rfl, rfl⟩)
    go_loopw [4] (fun iv wr => ∃ b : Nat, b ≤ V ∧ iv = .int .i64 (b : Int) ∧ Below w.heap.size w wr) (fun iv _ => V - (intOf iv).toNat)
    case atStart => exact ⟨0, by omega, rfl, Below.refl _ _⟩
    case round =>
      obtain ⟨b, hb, rfl, hbel⟩ := hrel
      have BEL := Lib.hid hbel
      have hs1 : w.heap.size ≤ wr.heap.size := hbel.size
      clear hbel
      obtain ⟨P, hP⟩ : ∃ P : Nat, 2 ^ b = P := ⟨_, rfl⟩
      have hP8 : P ≤ 8 := by rw [← hP]; exact Nat.pow_le_pow_right (n := 2) (by decide) (show b ≤ 3 by omega)
      have hPI : (2 : Int) ^ b = (P : Int) := by rw [← hP]; push_cast; rfl
      have hPW : IntKind.i64.wrap (2 ^ b) = (P : Int) := by rw [hPI]; exact IntWalk.i64_in _ (by omega)
      have HPW := Lib.hid hPW
      by_cases hlt : b < V
      · have hp : (P : Int) < (O : Int) := by
          have := G3.out ⟨b, by omega⟩ hlt
          simp only [hP] at this
          omega
        clear hP hPI
        go_wp2
        refine wp_region_Tw [0, 1, 2, 4] [] (.lp 0 (.lp 1 (.lp 2 (.hv 3 (.lp 4 (.done)))))) (by kernel_rfl) (by kernel_rfl) ?_
        (repeat (first | (refine T_lp rfl (fun K hK => ?_); go_simp; refine hK _ ?_; clear hK K) | (refine T_ls rfl rfl (fun K hK => ?_); go_simp; refine hK _ ?_; clear hK K)))
        (refine T_hv rfl (by kernel_rfl) (fun K hK => ?_); go_simp)
        go_at_call 67
        refine (HO.out wr.drew).mono ?_
        rintro e w2 ⟨rfl, hb2⟩
        have HB2 := Lib.hid (BEL.out.drew.trans (hb2.mono (by simp; omega)))
        clear hb2
        (go_simp; refine hK _ _ ?_; clear hK K)
        (repeat (first | (refine T_lp rfl (fun K hK => ?_); go_simp; refine hK _ ?_; clear hK K) | (refine T_ls rfl rfl (fun K hK => ?_); go_simp; refine hK _ ?_; clear hK K)))
        refine T_done ?_
        go_wp2
        go_roundw
        case rel => exact ⟨b + 1, by omega, by go_num, HB2.out⟩
        case measure => simp [intOf]; omega
      · have e : b = V := by omega
        subst e
        have hp : ¬ (P : Int) < (O : Int) := by
          have := G2.out
          rw [hP] at this
          omega
        have hP2 : (O : Int) ≤ (P : Int) := by omega
        clear hP hPI
        go_wp2
        refine wp_region_Tw [0, 1, 2, 4] [] (.lp 0 (.lp 1 (.lp 2 (.hv 3 (.lp 4 (.done)))))) (by kernel_rfl) (by kernel_rfl) ?_
        (repeat (first | (refine T_lp rfl (fun K hK => ?_); go_simp; refine hK _ ?_; clear hK K) | (refine T_ls rfl rfl (fun K hK => ?_); go_simp; refine hK _ ?_; clear hK K)))
        (refine T_hv rfl (by kernel_rfl) (fun K hK => ?_); go_simp)
        go_at_call 67
        refine (HO.out wr.drew).mono ?_
        rintro e w2 ⟨rfl, hb2⟩
        have HB2 := Lib.hid (BEL.out.drew.trans (hb2.mono (by simp; omega)))
        have hs2 : w.heap.size ≤ w2.heap.size := by have := hb2.size; simp at this; omega
        clear hb2
        (go_simp; refine hK _ _ ?_; clear hK K)
        (repeat (first | (refine T_lp rfl (fun K hK => ?_); go_simp; refine hK _ ?_; clear hK K) | (refine T_ls rfl rfl (fun K hK => ?_); go_simp; refine hK _ ?_; clear hK K)))
        refine T_done ?_
        have w1 : IntKind.i64.wrap ((L : Int) - 1) = (L : Int) - 1 := IntWalk.i64_in _ (by omega)
        have w2' : IntKind.i64.wrap ((L : Int) - 1 + (b : Int)) = (L : Int) - 1 + (b : Int) := IntWalk.i64_in _ (by omega)
        go_wp2_with (go_at_call 68; refine (HBt.out w2).mono ?_; rintro e w3 ⟨A', c', rfl, _, hb3⟩)
        go_ret2
        exact ⟨by rw [Q.out]; rfl, HB2.out.trans (hb3.mono hs2)⟩

set_option maxRecDepth 100000 in
set_option maxHeartbeats 2000000 in
theorem specHi_any (n : Int) (w : World) : Calls Try.prog 40 #[.int .i64 n] w fun e w' => e = .returned (.tuple #[.int .i64 (hiN n), .bool (isSh n)]) ∧ Below w.heap.size w w' := by
  have hN := shNumber_any n w
  cases hq : isSh n with
  | false =>
    rw [hq] at hN
    have HN := Lib.hid hN
    have Q := Lib.hid (hiN_false hq)
    clear hN hq
    go_enter Try.func40, Try.ntmps40
    go_wp2_with (go_at_call 49; refine HN.out.mono ?_; rintro e w' ⟨rfl, rfl⟩)
    go_ret2
    exact ⟨by rw [Q.out]; rfl, Below.refl _ _⟩
  | true =>
    rw [hq] at hN
    have HN := Lib.hid hN
    have hr := isSh_rng hq
    obtain ⟨N, rfl⟩ : ∃ N : Nat, n = N := ⟨n.toNat, by omega⟩
    obtain ⟨f1, _, f3⟩ := bits_facts ⟨N, by omega⟩
    simp only [] at f1 f3
    obtain ⟨o1, o7, b1, b7⟩ := f3 (by omega)
    have hO := fun W => shOnes_any N W (by omega)
    have hBt := fun W => shBits_any N W (by omega)
    have hQ := hiN_true hq
    rw [Int.toNat_natCast] at hQ
    rw [f1] at hBt
    obtain ⟨L, hL⟩ : ∃ L, Lib.bitLen N = L := ⟨_, rfl⟩
    obtain ⟨O, hOO⟩ : ∃ O, dgF 20 N = O := ⟨_, rfl⟩
    rw [hL] at hQ b1 b7 hBt
    rw [hOO] at hQ o1 o7 hO
    have HO := Lib.hid hO
    have HBt := Lib.hid hBt
    have Q := Lib.hid hQ
    clear hN hq hO hBt hQ f1 f3 hL hOO
    have w1 : IntKind.i64.wrap ((L : Int) + (O : Int)) = (L : Int) + (O : Int) := IntWalk.i64_in _ (by omega)
    have w2' : IntKind.i64.wrap ((L : Int) + (O : Int) - 2) = (L : Int) + (O : Int) - 2 := IntWalk.i64_in _ (by omega)
    go_enter Try.func40, Try.ntmps40
    go_wp2_with (first
      | (go_at_call 49; refine HN.out.mono ?_; rintro e w' ⟨rfl, rfl⟩)
      | (go_at_call 68; refine (HBt.out w).mono ?_; rintro e w3 ⟨A', c', rfl, _, hb3⟩)
      | (go_at_call 67; refine (HO.out w3).mono ?_; rintro e w4 ⟨rfl, hb4⟩))
    go_ret2
    exact ⟨by rw [Q.out]; rfl, hb3.trans (hb4.mono hb3.size)⟩

set_option maxRecDepth 100000 in
set_option maxHeartbeats 2000000 in
theorem implLo_any (n : Int) (w : World) : Calls Try.prog 39 #[.int .i64 n] w fun e w' => e = .returned (.tuple #[.int .i64 (loN n), .bool (isSh n)]) ∧ Below w.heap.size w w' := by
  have hN := isShort_any n w
  cases hq : isSh n with
  | false =>
    rw [hq] at hN
    have HN := Lib.hid hN
    have Q := Lib.hid (loN_false hq)
    clear hN hq
    go_enter Try.func39, Try.ntmps39
    go_wp2_with (go_at_call 53; refine HN.out.mono ?_; rintro e w' ⟨rfl, rfl⟩)
    go_ret2
    exact ⟨by rw [Q.out]; rfl, Below.refl _ _⟩
  | true =>
    rw [hq] at hN
    have HN := Lib.hid hN
    have hr := isSh_rng hq
    obtain ⟨N, rfl⟩ : ∃ N : Nat, n = N := ⟨n.toNat, by omega⟩
    obtain ⟨_, _, f3⟩ := bits_facts ⟨N, by omega⟩
    simp only [] at f3
    obtain ⟨o1, o7, b1, b7⟩ := f3 (by omega)
    obtain ⟨g1, _, _⟩ := least_facts ⟨dgF 20 N, by omega⟩
    have hQ := loN_true hq
    rw [Int.toNat_natCast] at hQ
    simp only [] at g1
    have hO := onesCount_any N w (by omega)
    have hB1 := bitsLen_any (N : Int) w (by omega) (by omega)
    have hB2 := bitsLen_any ((dgF 20 N - 1 : Nat) : Int) w (by omega) (by omega)
    rw [Int.toNat_natCast] at hB1 hB2
    obtain ⟨L, hL⟩ : ∃ L, Lib.bitLen N = L := ⟨_, rfl⟩
    obtain ⟨O, hOO⟩ : ∃ O, dgF 20 N = O + 1 := ⟨dgF 20 N - 1, by omega⟩
    rw [hL] at hQ b1 b7 hB1
    rw [hOO] at hQ g1 o1 o7 hO hB2
    rw [Nat.add_sub_cancel] at hQ g1 hB2
    obtain ⟨V, hV⟩ : ∃ V, Lib.bitLen O = V := ⟨_, rfl⟩
    rw [hV] at hQ g1 hB2
    have HO := Lib.hid hO
    have HB1 := Lib.hid hB1
    have HB2 := Lib.hid hB2
    have Q := Lib.hid hQ
    clear hN hq hO hB1 hB2 hQ f3 hL hOO hV
    have w1 : IntKind.i64.wrap ((L : Int) - 1) = (L : Int) - 1 := IntWalk.i64_in _ (by omega)
    have w2' : IntKind.i64.wrap ((L : Int) - 1 + (V : Int)) = (L : Int) - 1 + (V : Int) := IntWalk.i64_in _ (by omega)
    have w3' : IntKind.i64.wrap (O : Int) = (O : Int) := IntWalk.i64_in _ (by omega)
    have u1 : IntKind.u64.wrap (N : Int) = (N : Int) := by rw [IntKind.wrap_u64]; omega
    have u2 : IntKind.u64.wrap (O : Int) = (O : Int) := by rw [IntKind.wrap_u64]; omega
    go_enter Try.func39, Try.ntmps39
    go_wp2_with (first
      | (go_at_call 53; refine HN.out.mono ?_; rintro e w' ⟨rfl, rfl⟩)
      | (go_at_call 69; refine HO.out.mono ?_; rintro e w' ⟨rfl, rfl⟩)
      | (go_at_call 70; refine HB1.out.mono ?_; rintro e w' ⟨rfl, rfl⟩)
      | (go_at_call 70; refine HB2.out.mono ?_; rintro e w' ⟨rfl, rfl⟩))
    go_ret2
    exact ⟨by rw [Q.out]; rfl, Below.refl _ _⟩

set_option maxRecDepth 100000 in
set_option maxHeartbeats 2000000 in
theorem implHi_any (n : Int) (w : World) : Calls Try.prog 41 #[.int .i64 n] w fun e w' => e = .returned (.tuple #[.int .i64 (hiN n), .bool (isSh n)]) ∧ Below w.heap.size w w' := by
  have hN := isShort_any n w
  cases hq : isSh n with
  | false =>
    rw [hq] at hN
    have HN := Lib.hid hN
    have Q := Lib.hid (hiN_false hq)
    clear hN hq
    go_enter Try.func41, Try.ntmps41
    go_wp2_with (go_at_call 53; refine HN.out.mono ?_; rintro e w' ⟨rfl, rfl⟩)
    go_ret2
    exact ⟨by rw [Q.out]; rfl, Below.refl _ _⟩
  | true =>
    rw [hq] at hN
    have HN := Lib.hid hN
    have hr := isSh_rng hq
    obtain ⟨N, rfl⟩ : ∃ N : Nat, n = N := ⟨n.toNat, by omega⟩
    obtain ⟨_, _, f3⟩ := bits_facts ⟨N, by omega⟩
    simp only [] at f3
    obtain ⟨o1, o7, b1, b7⟩ := f3 (by omega)
    have hQ := hiN_true hq
    rw [Int.toNat_natCast] at hQ
    have hO := onesCount_any N w (by omega)
    have hB1 := bitsLen_any (N : Int) w (by omega) (by omega)
    rw [Int.toNat_natCast] at hB1
    obtain ⟨L, hL⟩ : ∃ L, Lib.bitLen N = L := ⟨_, rfl⟩
    obtain ⟨O, hOO⟩ : ∃ O, dgF 20 N = O := ⟨_, rfl⟩
    rw [hL] at hQ b1 b7 hB1
    rw [hOO] at hQ o1 o7 hO
    have HO := Lib.hid hO
    have HB1 := Lib.hid hB1
    have Q := Lib.hid hQ
    clear hN hq hO hB1 hQ f3 hL hOO
    have w1 : IntKind.i64.wrap ((L : Int) + (O : Int)) = (L : Int) + (O : Int) := IntWalk.i64_in _ (by omega)
    have w2' : IntKind.i64.wrap ((L : Int) + (O : Int) - 2) = (L : Int) + (O : Int) - 2 := IntWalk.i64_in _ (by omega)
    have u1 : IntKind.u64.wrap (N : Int) = (N : Int) := by rw [IntKind.wrap_u64]; omega
    go_enter Try.func41, Try.ntmps41
    go_wp2_with (first
      | (go_at_call 53; refine HN.out.mono ?_; rintro e w' ⟨rfl, rfl⟩)
      | (go_at_call 69; refine HO.out.mono ?_; rintro e w' ⟨rfl, rfl⟩)
      | (go_at_call 70; refine HB1.out.mono ?_; rintro e w' ⟨rfl, rfl⟩))
    go_ret2
    exact ⟨by rw [Q.out]; rfl, Below.refl _ _⟩
end Go.Proofs.Ytppahohakiidmaa
/- slices.Backward over numbers: what it hands back, and what comes out of it. -/
namespace Go.Proofs.Ytppahohakiidmaa
open Go.RowKit Go.Shelf

attribute [local go_sem] Oper.semAt_some

/-- What has come when k rounds are over: f of the last index, and on down. -/
def bwd {α : Type} (f : Nat → α) (n k : Nat) : List α := (List.range k).map fun j => f (n - 1 - j)
theorem bwd_succ {α : Type} (f : Nat → α) (n k : Nat) : bwd f n (k + 1) = bwd f n k ++ [f (n - 1 - k)] := by simp [bwd, List.range_succ]
theorem bwd_length {α : Type} (f : Nat → α) (n k : Nat) : (bwd f n k).length = k := by simp [bwd]
/-- The pairs of slices.Backward. -/
def bwZ (zs : List Int) (k : Nat) : List (Nat × Int) := bwd (fun j => (j, zs[j]?.getD 0)) zs.length k
/-- What a round keeps: the blocks below n, and the box of the slice. -/
def KpB (n Bs : Nat) (W W' : World) : Prop := Below n W W' ∧ (Bs < W.heap.size → W'.heap[Bs]? = W.heap[Bs]?)
theorem KpB.refl (n Bs : Nat) (W : World) : KpB n Bs W W := ⟨Below.refl _ _, fun _ => rfl⟩
theorem KpB.trans {n Bs : Nat} {A B C : World} (h : KpB n Bs A B) (h' : KpB n Bs B C) : KpB n Bs A C :=
  ⟨h.1.trans h'.1, fun hl => (h'.2 (Nat.lt_of_lt_of_le hl h.1.size)).trans (h.2 hl)⟩
theorem KpB.cell {n Bs : Nat} {W W' : World} {v : Value} (h : KpB n Bs W W') (hc : W.heap[Bs]? = some (.cells #[v] 22 (0, 0))) : W'.heap[Bs]? = some (.cells #[v] 22 (0, 0)) :=
  (h.2 (Array.getElem?_eq_some_iff.1 hc).1).trans hc

set_option maxRecDepth 100000 in
set_option maxHeartbeats 2000000 in
theorem backward1_in (F : Fence) (n : Nat) (h7 : F.fn 137) (hro : F.round = none) (hn : 1 ≤ n) (l Bs n₀ : Nat) (A : Option Addr) (cap : Nat) (zs : List Int) (hz : zs.length ≤ 1048576) (J Jx : List (Nat × Int) → World → Prop)
    (hY : ∀ pre x W, J pre W → pre.length < zs.length → YieldAt F (n - 1) Try.prog l #[.int .i64 (x.1 : Int), .int .i64 x.2] W fun e W' =>
      (e = .returned (.bool true) ∧ J (pre ++ [x]) W' ∧ KpB n₀ Bs W W') ∨ (e = .returned (.bool false) ∧ Jx (pre ++ [x]) W'))
    (W : World) (hBs : W.heap[Bs]? = some (.cells #[.slice A zs.length cap] 22 (0, 0))) (hr : ∀ W', Below n₀ W W' → Rd W' n₀ 1 A zs.length (zs.map I)) (h0 : J [] W) :
    CallsIn F n Try.prog 137 #[.func (.yield l) #[] #[], .pointer (some ⟨Bs, 0, none⟩)] W fun e W' => (∃ v, e = .returned v) ∧
      ((∃ ys, ys = bwZ zs zs.length ∧ J ys W') ∨ (∃ pre, (∃ k, k ≤ zs.length ∧ pre = bwZ zs k) ∧ Jx pre W')) := by
  have HB := Lib.hid hBs
  have HR := Lib.hid hr
  have c0 : W.cell? ⟨Bs, 0, none⟩ = some (.slice A zs.length cap) := by rw [cell_of_row W Bs 0 _ _ (0, 0) hBs]; rfl
  clear hBs hr
  refine callsIn_of_wp Try.func137 rfl h7 ?_ hro
  simp only [Try.ntmps137, List.size_toArray, List.length_cons, List.length_nil, Nat.reduceAdd, Nat.reduceSub, Array.replicate_succ, Array.replicate_zero, List.push_toArray, List.append_toArray, List.nil_append, List.cons_append]
  gi_wp2
  gi_loopw [3] (fun i wr => ∃ k : Nat, k ≤ zs.length ∧ i = .int .i64 ((zs.length : Int) - 1 - k) ∧ J (bwZ zs k) wr ∧ KpB n₀ Bs W wr)
    (fun i _ => (intOf i + 1).toNat)
  case atStart => exact ⟨0, Nat.zero_le _, by simp, h0, KpB.refl _ _ _⟩
  case round =>
    obtain ⟨k, hk, rfl, hJs, hkp⟩ := hrel
    have c1 : wr.cell? ⟨Bs, 0, none⟩ = some (.slice A zs.length cap) := by rw [cell_of_row wr Bs 0 _ _ (0, 0) (hkp.cell HB.out)]; rfl
    have KP := Lib.hid hkp
    clear hkp
    by_cases hlt : k < zs.length
    · obtain ⟨p, hp⟩ : ∃ p : Nat, zs.length - 1 - k = p := ⟨_, rfl⟩
      have ep : (zs.length : Int) - 1 - (k : Int) = (p : Int) := by omega
      have ip : (0 : Int) ≤ (p : Int) := by omega
      have ipl : (p : Int) < (zs.length : Int) := by omega
      have hpl : p < zs.length := by omega
      obtain ⟨b, off, rfl, hb, hcell⟩ := (HR.out wr KP.out.1).int hpl
      have hv : zs[p]?.getD 0 = zs[p] := by simp [hpl]
      obtain ⟨fn, tmps, assign, body, hy, hR⟩ := hY _ (p, zs[p]?.getD 0) wr hJs (by unfold bwZ; rw [bwd_length]; exact hlt)
      dsimp only at hy
      rw [hv] at hy
      have ES := Lib.hid (show bwZ zs (k + 1) = bwZ zs k ++ [(p, zs[p]?.getD 0)] by unfold bwZ; rw [bwd_succ, hp])
      obtain ⟨z, hz⟩ : ∃ z, zs[p] = z := ⟨_, rfl⟩
      rw [hz] at hy hcell
      rw [ep]
      clear hv hz hp
      gi_wp2
      refine hR.mono ?_
      rintro e W3 (⟨rfl, hJ3, hk3⟩ | ⟨rfl, hJx3⟩)
      · gi_wp2
        go_roundw
        case rel => exact ⟨k + 1, by omega, by rw [← ep]; go_num, by rw [ES.out]; exact hJ3, KP.out.trans hk3⟩
        case measure => simp [intOf]
      · gi_wp2
        refine bodyPost_ret (results_none rfl _ _ _) rfl ?_
        exact ⟨⟨_, rfl⟩, .inr ⟨_, ⟨k + 1, by omega, ES.out.symm⟩, hJx3⟩⟩
    · obtain rfl : k = zs.length := by omega
      have ip : ¬ (0 : Int) ≤ (zs.length : Int) - 1 - (zs.length : Int) := by omega
      gi_wp2
      go_end0
      first | exact ⟨⟨_, rfl⟩, .inl ⟨_, rfl, hJs⟩⟩ | exact ⟨⟨_, rfl⟩, .inl hJs⟩

set_option maxHeartbeats 1000000 in
theorem backward_in (F : Fence) (n : Nat) (h5 : F.fn 132) (hro : F.round = none) (a : Option Addr) (len cap : Nat) (w : World) :
    CallsIn F n Try.prog 132 #[.slice a len cap] w fun e w' => e = .returned (.func (.func 137) #[] #[.pointer (some ⟨w.heap.size, 0, none⟩)]) ∧ w' = w.alloc (.cells #[.slice a len cap] 22) := by
  refine callsIn_of_wp Try.func132 rfl h5 ?_ hro
  simp only [Try.ntmps132, List.size_toArray, List.length_cons, List.length_nil, Nat.reduceAdd, Nat.reduceSub, Array.replicate_succ, Array.replicate_zero, List.push_toArray, List.append_toArray, List.nil_append, List.cons_append]
  gi_wp2
  go_ret
  exact ⟨rfl, rfl⟩

/-- What slices.Backward hands back: all pairs from the last one down, or the first k of them. -/
theorem backward_stops (F : Fence) (n : Nat) (h7 : F.fn 137) (hro : F.round = none) (hn : 1 ≤ n) (Bs n₀ : Nat) (A : Option Addr) (cap : Nat) (zs : List Int) (hz : zs.length ≤ 1048576) (w : World) (hn₀ : n₀ ≤ w.heap.size)
    (hc : w.heap[Bs]? = some (.cells #[.slice A zs.length cap] 22 (0, 0))) (hr : ∀ W', Below n₀ w W' → Rd W' n₀ 1 A zs.length (zs.map I)) :
    SeqStopsK F n Try.prog 137 #[.pointer (some ⟨Bs, 0, none⟩)] (fun x : Nat × Int => #[Value.int .i64 (x.1 : Int), Value.int .i64 x.2]) (KpB n₀ Bs) (fun ys => ys = bwZ zs zs.length)
      (fun pre => ∃ k, k ≤ zs.length ∧ pre = bwZ zs k) zs.length w := fun l J Jx W hW _ _ hY h0 =>
  backward1_in F n h7 hro hn l Bs n₀ A cap zs hz J Jx hY W ((hW.block Bs (Array.getElem?_eq_some_iff.1 hc).1).trans hc) (fun W' h => hr W' ((hW.mono hn₀).trans h)) h0
theorem kpB_t {n Bs : Nat} : ∀ {A B C : World}, KpB n Bs A B → KpB n Bs B C → KpB n Bs A C := fun h h' => h.trans h'
theorem kpB_b {w : World} {n Bs : Nat} (hn : n ≤ w.heap.size) (hB : Bs < w.heap.size) : ∀ (W : World) (l : Nat) (o o' : Obj), w.heap.size ≤ l → W.heap[l]? = some o → o.isCells = false → o.isWalk = false → KpB n Bs W (W.putObj l o') := fun W l o o' hl ho h1 h2 =>
  ⟨belowK_b hn W l o o' hl ho h1 h2, fun _ => World.putObj_heap_other (by omega)⟩
end Go.Proofs.Ytppahohakiidmaa
/- Boxes of one cell behind rounds of a range over a function. -/
namespace Go.Proofs.Ytppahohakiidmaa
open Go.RowKit Go.Shelf

theorem blk_own {W W' : World} {row : Option Nat} {x : Nat} {cs : Array Value} {t : TypeId} (h : W.heap[x]? = some (.cells cs t (0, 0))) (hg : W.grownBy W' row) (hr : ∀ r, row = some r → ∃ o : Obj, W.heap[r]? = some o ∧ o.isCells = false) :
    W'.heap[x]? = some (.cells cs t (0, 0)) :=
  (hg.block x (Array.getElem?_eq_some_iff.1 h).1 (fun e => by obtain ⟨o, ho, hc⟩ := hr x e.symm; rw [h] at ho; cases ho; cases hc)).trans h
theorem one_set {w w' : World} {g : Nat} {a u : Value} {t : TypeId} (hb : w.heap[g]? = some (.cells #[a] t (0, 0))) (h : w.setCell ⟨g, 0, none⟩ u = w') : w'.heap[g]? = some (.cells #[u] t (0, 0)) := by
  subst h
  rw [heap_setCell_same w g 0 _ t u hb]
  rfl
theorem one_cell {w : World} {g : Nat} {v : Value} {t : TypeId} (hb : w.heap[g]? = some (.cells #[v] t (0, 0))) : w.cell? ⟨g, 0, none⟩ = some v ∧ w.frozen? ⟨g, 0, none⟩ = false :=
  ⟨by rw [cell_of_row w g 0 _ _ (0, 0) hb]; rfl, frozen_of_row w g 0 _ _ hb⟩
theorem set_other {w : World} {g h : Nat} {u : Value} {k : Nat} (hne : h ≠ g) : (w.setCell ⟨g, k, none⟩ u).heap[h]? = w.heap[h]? := by
  exact heap_setCell_other w ⟨g, k, none⟩ h u hne

end Go.Proofs.Ytppahohakiidmaa
/- Digits to a base; least factors. -/
namespace Go.Proofs.Ytppahohakiidmaa
open Go.RowKit

def lenD (b : Nat) : Nat → Nat → Nat
  | 0, _ => 0
  | f + 1, n => if n = 0 then 0 else lenD b f (n / b) + 1
def digL (b n k : Nat) : List Int := (List.range k).map fun i => ((n / b ^ i % b : Nat) : Int)
/-- The digits of n to the base b, the lowest one first. -/
def dgs (b n : Nat) : List Int := digL b n (lenD b 20 n)
theorem lenD_le (b : Nat) : ∀ f n, lenD b f n ≤ f := by
  intro f
  induction f with
  | zero => intro n; exact Nat.le_refl _
  | succ f ih =>
    intro n
    unfold lenD
    split
    · omega
    · have := ih (n / b); omega
theorem lenD_pos (b : Nat) : ∀ f n k, k < lenD b f n → 0 < n / b ^ k := by
  intro f
  induction f with
  | zero => intro n k h; exact absurd h (by simp [lenD])
  | succ f ih =>
    intro n k h
    unfold lenD at h
    split at h
    · omega
    · cases k with
      | zero => simp; omega
      | succ k =>
        have := ih (n / b) k (by omega)
        rwa [Nat.div_div_eq_div_mul, Nat.mul_comm, ← Nat.pow_succ] at this
theorem lenD_end {b : Nat} (hb : 2 ≤ b) : ∀ f n, n < 2 ^ f → n / b ^ lenD b f n = 0 := by
  intro f
  induction f with
  | zero => intro n h; have : n = 0 := by simpa using h
            subst this; simp
  | succ f ih =>
    intro n h
    unfold lenD
    split
    · rename_i h0; subst h0; simp
    · have h1 : n / b < 2 ^ f := by
        have h2 : n / b ≤ n / 2 := Nat.div_le_div_left hb (by omega)
        have : n / 2 < 2 ^ f := by rw [Nat.div_lt_iff_lt_mul (by omega)]; rwa [Nat.pow_succ] at h
        omega
      have := ih (n / b) h1
      rwa [Nat.div_div_eq_div_mul, Nat.mul_comm, ← Nat.pow_succ] at this
theorem digL_len (b n k : Nat) : (digL b n k).length = k := by simp [digL]
theorem digL_succ (b n k : Nat) : digL b n (k + 1) = digL b n k ++ [((n / b ^ k % b : Nat) : Int)] := by simp [digL, List.range_succ]
theorem dgs_len (b n : Nat) : (dgs b n).length ≤ 20 := by unfold dgs; rw [digL_len]; exact lenD_le b 20 n
theorem div_step (b n k : Nat) : n / b ^ k / b = n / b ^ (k + 1) := by rw [Nat.div_div_eq_div_mul, ← Nat.pow_succ]
theorem dgs_end {b n k : Nat} (hk : k ≤ lenD b 20 n) (h : n / b ^ k = 0) : digL b n k = dgs b n := by
  unfold dgs
  rcases Nat.lt_or_eq_of_le hk with h' | h'
  · have := lenD_pos b 20 n k h'; omega
  · rw [h']
theorem dgs_more {b n k : Nat} (hb : 2 ≤ b) (hn : n ≤ 1000000) (hk : k ≤ lenD b 20 n) (h : 0 < n / b ^ k) : k + 1 ≤ lenD b 20 n := by
  rcases Nat.lt_or_eq_of_le hk with h' | h'
  · omega
  · have := lenD_end hb 20 n (by omega)
    rw [h'] at h
    omega

theorem isBase_any (b : Int) (w : World) : Calls Try.prog 136 #[.int .i64 b] w fun e w' => e = .returned (.bool (inB b 2 64)) ∧ w = w' := by
  by_cases h1 : 2 ≤ b <;> by_cases h2 : b ≤ 64
  all_goals
    go_enter Try.func136, Try.ntmps136
    go_wp2
    go_ret
    exact ⟨ret_bool (by simp [inB, h1, h2]), rfl⟩

def dgB (x b : Int) : Bool := isNum x && inB b 2 64
def dgR (x b : Int) : List Int := if dgB x b then dgs b.toNat x.toNat else []
theorem dgR_le (x b : Int) : (dgR x b).length ≤ 1000 := by
  unfold dgR
  split
  · have := dgs_len b.toNat x.toNat; omega
  · simp
theorem dgR_false {x b : Int} (h : dgB x b = false) : dgR x b = [] := by unfold dgR; rw [h]; rfl
theorem dgR_true {x b : Int} (h : dgB x b = true) : dgR x b = dgs b.toNat x.toNat := by unfold dgR; rw [if_pos h]

set_option maxRecDepth 100000 in
set_option maxHeartbeats 1000000 in
theorem implDigits_any (x y : Int) (w : World) :
    Calls Try.prog 131 #[.int .i64 x, .int .i64 y] w fun e w' =>
      ∃ A' c', e = .returned (.tuple #[.slice A' (dgR x y).length c', .bool (dgB x y)]) ∧ OwI w' w.heap.size (.slice A' (dgR x y).length c') (dgR x y) ∧ Below w.heap.size w w' := by
  obtain ⟨g1, h1⟩ : ∃ g, isNum x = g := ⟨_, rfl⟩
  obtain ⟨g2, h2⟩ : ∃ g, inB y 2 64 = g := ⟨_, rfl⟩
  have EB := Lib.hid (show dgB x y = (g1 && g2) by unfold dgB; rw [h1, h2])
  have H1 := Lib.hid h1
  have H2 := Lib.hid h2
  cases g1 with
  | false =>
    have ER := Lib.hid (dgR_false EB.out)
    clear h1 h2
    go_enter Try.func131, Try.ntmps131
    go_wp2_with (go_at_call 105; refine (isExponent_any _ _).mono ?_; rw [H1.out]; rintro e w' ⟨rfl, rfl⟩)
    go_ret2
    exact ⟨none, 0, by rw [ER.out, EB.out]; rfl, by rw [ER.out]; exact OwI.nil _ _, Below.refl _ _⟩
  | true =>
  cases g2 with
  | false =>
    have ER := Lib.hid (dgR_false EB.out)
    clear h1 h2
    go_enter Try.func131, Try.ntmps131
    go_wp2_with (first
      | (go_at_call 105; refine (isExponent_any _ _).mono ?_; rw [H1.out]; rintro e w' ⟨rfl, rfl⟩)
      | (go_at_call 136; refine (isBase_any _ _).mono ?_; rw [H2.out]; rintro e w' ⟨rfl, rfl⟩))
    go_ret2
    exact ⟨none, 0, by rw [ER.out, EB.out]; rfl, by rw [ER.out]; exact OwI.nil _ _, Below.refl _ _⟩
  | true =>
    have ER := dgR_true EB.out
    have ⟨r1, r2⟩ := isNum_rng h1
    have hy : 2 ≤ y ∧ y ≤ 64 := by simpa [inB] using h2
    obtain ⟨b, rfl⟩ : ∃ b : Nat, y = b := ⟨y.toNat, by omega⟩
    obtain ⟨n, rfl⟩ : ∃ n : Nat, x = n := ⟨x.toNat, by omega⟩
    rw [show ((b : Int)).toNat = b by omega, show ((n : Int)).toNat = n by omega] at ER
    have HR := Lib.hid ER
    have hb2 : 2 ≤ b := by omega
    have hb64 : b ≤ 64 := by omega
    have hn : n ≤ 1000000 := by omega
    have hb0 : ((b : Int) == 0) = false := by simp; omega
    clear h1 h2 ER hy r1 r2
    go_enter Try.func131, Try.ntmps131
    go_wp2_with (first
      | (go_at_call 105; refine (isExponent_any _ _).mono ?_; rw [H1.out]; rintro e w' ⟨rfl, rfl⟩)
      | (go_at_call 136; refine (isBase_any _ _).mono ?_; rw [H2.out]; rintro e w' ⟨rfl, rfl⟩))
    go_loopw [0, 6] (fun nv ov wr => ∃ (k : Nat) (A1 : Option Addr) (c1 : Nat), k ≤ lenD b 20 n ∧ nv = .int .i64 ((n / b ^ k : Nat) : Int) ∧ ov = .slice A1 k c1 ∧ OwI wr w.heap.size ov (digL b n k) ∧ Below w.heap.size w wr) (fun nv _ _ => (intOf nv).toNat)
    case atStart => exact ⟨0, none, 0, by omega, by simp, rfl, OwI.nil _ _, Below.refl _ _⟩
    case round =>
      obtain ⟨k, A1, c1, hk, rfl, rfl, hown, hbel⟩ := hrel
      have OWN := Lib.hid hown
      have BEL := Lib.hid hbel
      have hs := hbel.size
      clear hown hbel
      have hMn : n / b ^ k ≤ n := Nat.div_le_self _ _
      have E1 := Lib.hid (digL_succ b n k)
      have E2 := Lib.hid (div_step b n k)
      have EE := Lib.hid (fun h : n / b ^ k = 0 => dgs_end hk h)
      have EM := Lib.hid (fun h : 0 < n / b ^ k => dgs_more hb2 hn hk h)
      have EL := Lib.hid (digL_len b n k)
      have hk20 := lenD_le b 20 n
      obtain ⟨M, hM⟩ : ∃ M, n / b ^ k = M := ⟨_, rfl⟩
      rw [hM] at hMn E1 E2 EE EM
      rw [hM]
      clear hM
      by_cases hp : 0 < M
      · have ip : (0 : Int) < (M : Int) := by omega
        have hdl : M / b < M := Nat.div_lt_self hp (by omega)
        obtain ⟨Q, hQ⟩ : ∃ Q, M / b = Q := ⟨_, rfl⟩
        rw [hQ] at E2 hdl
        have ew : wrap64 ((M : Int) / (b : Int)) = (Q : Int) := by
          rw [show (M : Int) / (b : Int) = (Q : Int) by rw [← hQ]; push_cast; rfl]
          unfold wrap64; omega
        clear hQ
        go_wp2_with (at_builtin; refine list_step (fun K hK => ?_); refine step_app_int rfl (.tmp 20) (.tmp 24) rfl w.heap.size k _ (digL b n k) rfl (OWN.out.alloc _) EL.out wr.heap.size 1 ((M % b : Nat) : Int) rfl (by simp) (by omega) (by simp; omega) ?_; intro A3 c3 w3 hown3 hg3 hbel3; go_simp; refine hK _ _ ?_; clear hK K)
        go_roundw
        case rel => exact ⟨k + 1, A3, c3, EM.out hp, by rw [ew, ← E2.out], rfl, by rw [E1.out]; exact hown3, (BEL.out.alloc hs _).trans hbel3⟩
        case measure => rw [ew]; simp [intOf]; omega
      · have h0 : M = 0 := by omega
        have ip : ¬ (0 : Int) < (M : Int) := by omega
        have ED := Lib.hid (EE.out h0)
        go_wp2
        go_ret2
        exact ⟨A1, c1, by rw [HR.out, EB.out, ← ED.out, EL.out]; rfl, by rw [HR.out, ← ED.out, EL.out]; exact OWN.out, BEL.out⟩
end Go.Proofs.Ytppahohakiidmaa
/- The windows of a number at places: as data; by the program, at one digit. -/
namespace Go.Proofs.Ytppahohakiidmaa
open Go.RowKit Go.Shelf

attribute [local go_sem] Oper.semAt_some

/-- An own slice of windows. -/
def OwW (w : World) (B : Nat) (v : Value) (l : List (Int × Int)) : Prop := w.ownsRow B 136 2 v l.length (fl l)
theorem OwW.below {w w' : World} {B : Nat} {v : Value} {l : List (Int × Int)} (h : OwW w B v l) (hb : Below w.heap.size w w') : OwW w' B v l := own_below h hb
def wnS (k : Int) (acc : List (Int × Int)) (x : Nat × Int) : List (Int × Int) := if x.2 = 0 then acc else acc ++ [(wrap64 ((x.1 : Int) * k), x.2)]
def wnF (k : Int) (p : List (Nat × Int)) : List (Int × Int) := p.foldl (wnS k) []
theorem wnF_snoc (k : Int) (p : List (Nat × Int)) (x : Nat × Int) : wnF k (p ++ [x]) = wnS k (wnF k p) x := by simp [wnF]
theorem wnF_len (k : Int) (p : List (Nat × Int)) : (wnF k p).length ≤ p.length := by
  suffices h : ∀ (p : List (Nat × Int)) (acc : List (Int × Int)), (p.foldl (wnS k) acc).length ≤ acc.length + p.length by
    have := h p []
    simpa [wnF] using this
  intro p
  induction p with
  | nil => intro acc; exact Nat.le_refl _
  | cons x p ih =>
    intro acc
    have h1 := ih (wnS k acc x)
    have h2 : (wnS k acc x).length ≤ acc.length + 1 := by
      unfold wnS
      split <;> simp
    simp only [List.foldl_cons, List.length_cons]
    omega
theorem info_window : (Try.prog.info? 136).map (fun i => (i.zero, i.size, i.bytes)) = some (some (.agg #[I 0, I 0]), 2, 16) := by kernel_rfl
theorem cell_two_at (w : World) (a b : Value) (t : TypeId) : ∀ j u, [a, b][j]? = some u → (w.alloc (.cells #[a, b] t)).cell? ((⟨w.heap.size, 0, none⟩ : Addr).add j) = some u := by
  intro j u hj
  match j, hj with
  | 0, hj => simp at hj; subst hj; rw [show ((⟨w.heap.size, 0, none⟩ : Addr).add 0) = ⟨w.heap.size, 0, none⟩ from rfl, cell_of_row _ _ 0 _ _ (0, 0) (heap_alloc_new w _)]; rfl
  | 1, hj => simp at hj; subst hj; rw [show ((⟨w.heap.size, 0, none⟩ : Addr).add 1) = ⟨w.heap.size, 1, none⟩ from rfl, cell_of_row _ _ 1 _ _ (0, 0) (heap_alloc_new w _)]; rfl

theorem row_form {w : World} {B k n : Nat} {e : TypeId} {v : Value} {xs : List Value} (h : w.ownsRow B e k v n xs) : ∃ A c, v = .slice A n c := by
  rcases h.2 with ⟨rfl, h0⟩ | ⟨g, cap, cur, rfl, _⟩
  · exact ⟨none, 0, by rw [h0]⟩
  · exact ⟨some _, cap, rfl⟩

/-- The windows of a number. -/
def wins (k : Int) (b n : Nat) : List (Int × Int) := wnF k (bwZ (dgs b n) (dgs b n).length)

set_option maxRecDepth 100000 in
set_option maxHeartbeats 4000000 in
theorem windows1_any (n : Nat) (w : World) (hn1 : 1 ≤ n) (hn : n ≤ 1000000) :
    Calls Try.prog 127 #[.int .i64 (n : Int), .int .i64 1] w fun e w' =>
      ∃ A c, e = .returned (.slice A (wins 1 2 n).length c) ∧ OwW w' w.heap.size (.slice A (wins 1 2 n).length c) (wins 1 2 n) ∧ Below w.heap.size w w' := by
  have hD := fun W => implDigits_any (n : Int) 2 W
  have hB : dgB (n : Int) 2 = true := by
    unfold dgB isNum inB
    rw [decide_eq_true (show (1 : Int) ≤ (n : Int) by omega), decide_eq_true (show (n : Int) ≤ 1000000 by omega)]
    rfl
  have hR := dgR_true hB
  rw [show ((2 : Int)).toNat = 2 from rfl, show ((n : Int)).toNat = n by omega] at hR
  rw [hR, hB] at hD
  have hdl := dgs_len 2 n
  obtain ⟨D, hDD⟩ : ∃ D, dgs 2 n = D := ⟨_, rfl⟩
  have EW := Lib.hid (show wins 1 2 n = wnF 1 (bwZ D D.length) by unfold wins; rw [hDD])
  rw [hDD] at hD hdl
  have HDG := Lib.hid hD
  clear hD hB hR hDD
  refine (callsIn_wide (n := 3)).1 ?_
  refine callsIn_of_wp_marks Try.func127 rfl trivial ?_ rfl
  simp only [Try.ntmps127, List.size_toArray, List.length_cons, List.length_nil, Nat.reduceAdd, Nat.reduceSub, Array.replicate_succ, Array.replicate_zero, List.push_toArray, List.append_toArray, List.nil_append, List.cons_append]
  gi_wp2_with fail
  refine ⟨trivial, ?_⟩
  gi_at_call 131
  generalize hw1 : World.alloc w _ = w1
  have q0 : w1.heap[w.heap.size]? = some (.cells #[.int .i64 1] 3 (0, 0)) := by subst hw1; exact heap_alloc_new w _
  have xs : w1.heap.size = w.heap.size + 1 := by subst hw1; simp
  have xb : Below w.heap.size w w1 := by subst hw1; exact (Below.refl _ _).alloc (Nat.le_refl _) _
  clear hw1
  refine (callsIn_wide.2 (HDG.out w1)).mono ?_
  rintro e w2 ⟨A, c, rfl, ho2, hb2⟩
  have z0 := (hb2.block w.heap.size (by omega)).trans q0
  have hs2 := hb2.size
  have XB := Lib.hid (xb.trans (hb2.mono (by omega)))
  have HO2 := Lib.hid (ho2.rd)
  clear q0 xb hb2 ho2
  gi_wp2_with fail
  refine ⟨trivial, ?_⟩
  gi_at_call 132
  refine (backward_in Fence.wide _ trivial rfl _ _ _ _).mono ?_
  rintro e w' ⟨rfl, hww⟩
  subst hww
  gi_wp2_with fail
  obtain ⟨w3, hw3⟩ : ∃ w3, (w2.alloc (.cells #[.slice none 0 0] 128)).alloc (.cells #[.slice A D.length c] 22) = w3 := ⟨_, rfl⟩
  rw [hw3]
  have hb3 : Below w2.heap.size w2 w3 := by subst hw3; exact ((Below.refl _ _).alloc (Nat.le_refl _) _).alloc (by simp) _
  have z7 : Boxed w3 w2.heap.size 128 (.slice none 0 0) := by
    subst hw3
    exact (Boxed.new w2 _ _).alloc _
  have z4 : w3.heap[w2.heap.size + 1]? = some (.cells #[.slice A D.length c] 22 (0, 0)) := by
    subst hw3
    have := heap_alloc_new (w2.alloc (.cells #[.slice none 0 0] 128)) (.cells #[.slice A D.length c] 22)
    rw [World.size_alloc] at this
    exact this
  have s3 : w3.heap.size = w2.heap.size + 2 := by subst hw3; simp
  have HB3 := Lib.hid hb3
  have HR := Lib.hid (show ∀ W', Below w2.heap.size w3 W' → Rd W' w2.heap.size 1 A D.length (D.map I) from fun W' h => (HO2.out.below' (hb3.trans h) (Nat.le_refl _)))
  have Z0 := Lib.hid z0
  have hlt2 : w.heap.size < w2.heap.size := by omega
  obtain ⟨i0, hi, hz0, hz1, hz2⟩ := info_parts info_window
  have HI := Lib.hid hi
  have HI0 := Lib.hid hz0
  have HI1 := Lib.hid hz1
  have HI2 := Lib.hid hz2
  clear hw3 hb3 z0 xs hi hz0 hz1 hz2
  refine wpIn_rangeFunc_ownG (w0 := w3) rfl (by omega) (gf := 137) (lb := #[.pointer (some ⟨w2.heap.size + 1, 0, none⟩)]) rfl trivial (enters_of Try.func137 (by kernel_rfl) rfl)
    (backward_stops Fence.wide _ trivial rfl (by omega) (w2.heap.size + 1) w2.heap.size A c D (by omega) w3 (by omega) z4 HR.out) kpB_t (kpB_b (by omega) (by omega)) (Below.refl _ _) (fun _ => rfl)
    (fun pre W => (∃ v, Boxed W w2.heap.size 128 v ∧ W.ownsRow w2.heap.size 136 2 v (wnF 1 pre).length (fl (wnF 1 pre)) ∧ True) ∧ (Boxed W (w2.heap.size + 1) 22 (.slice A D.length c) ∧ Below w2.heap.size w2 W))
    (fun _ _ _ => False)
    (OwnFrom.and (Own.from (holdsRow_own w2.heap.size w2.heap.size 128 136 2 (fun pre => (wnF 1 pre).length) (fun pre => fl (wnF 1 pre)) (fun _ _ => True)) _) (OwnFrom.and (Own.from (fun s A B row hs hg hr => blk_own hs hg hr) _) (ownFrom_below (Nat.le_refl _) (by omega))))
    (fun _ _ _ _ _ hs _ _ => hs)
    ⟨⟨_, z7, World.ownsRow_nil _ _ _ _, trivial⟩, z4, HB3.out⟩
    (fun x => { tmps := #[.int .i64 (n : Int), .int .i64 1, undef, .pointer (some ⟨w.heap.size, 0, none⟩), .slice none 0 0, .slice A D.length c, .bool true, .pointer (some ⟨w2.heap.size, 0, none⟩), .int .i64 (x.1 : Int), .int .i64 x.2, .tuple #[.slice A D.length c, .bool true], .int .i64 (n : Int), .int .i64 1, .int .i64 2, .tuple #[.slice A D.length c, .bool true], .slice A D.length c, .bool true, .slice A D.length c, .func (.func 137) #[] #[.pointer (some ⟨w2.heap.size + 1, 0, none⟩)], .int .i64 (x.1 : Int), .int .i64 x.2, undef, undef, undef, undef, undef, undef, undef, undef, undef, undef, undef], defers := [] }) ?assign ?body ?done ?stop
  case assign =>
    intro l x W K hK
    gi_wp2
    exact hK
  case body =>
    rintro lr pre ⟨i, d⟩ W ⟨⟨v, hbx, hrow, _⟩, hbs, hbel⟩ hlen
    have BS := Lib.hid hbs
    have hwl := wnF_len 1 pre
    have EF := Lib.hid (wnF_snoc 1 pre (i, d))
    have BEL := Lib.hid hbel
    have BX := Lib.hid hbx
    obtain ⟨z, hz⟩ : ∃ z, wnF 1 pre = z := ⟨_, rfl⟩
    rw [hz] at hrow EF hwl
    have ROW := Lib.hid hrow
    have EL := Lib.hid (show z.length ≤ 20 by omega)
    have hs := hbel.size
    have xb := hbx.cell
    obtain ⟨x0, f0⟩ := one_cell ((hbel.block w.heap.size (by omega)).trans Z0.out)
    clear hbx hbel hrow hz hbs
    dsimp only
    by_cases h0 : d = 0
    · have i0' : (d != 0) = false := by simpa using h0
      have EN := Lib.hid (show wnF 1 (pre ++ [(i, d)]) = z by rw [EF.out]; unfold wnS; rw [if_pos h0])
      clear h0
      gi_wp2
      exact ⟨(KeepsOthers.refl _).from _, KpB.refl _ _ _, ⟨_, BX.out, by rw [EN.out]; exact ROW.out, trivial⟩, BS.out, BEL.out⟩
    · have i0' : (d != 0) = true := by simpa using h0
      have EN := Lib.hid (show wnF 1 (pre ++ [(i, d)]) = z ++ [(wrap64 (i : Int), d)] by rw [EF.out]; unfold wnS; rw [if_neg h0, Int.mul_one])
      clear h0
      gi_wp2_with (gi_at_builtin; refine wpListIn_append_own _ rfl _ _ 128 rfl w2.heap.size 136 i0 (.agg #[I 0, I 0]) 2 16 Try.underlying128 HI.out HI0.out HI1.out HI2.out rfl (by decide) _ _ _ rfl (ROW.out.alloc _) ⟨W.heap.size, 0, none⟩ 1 1 [.int .i64 (wrap64 (i : Int)), .int .i64 d] rfl rfl (cell_two_at _ _ _ _) (by simp [Value.oneCell']) (by unfold maxLen; have := EL.out; omega) (by have := EL.out; omega) (by simp; omega) ?_; intro v' w1 hown' hgrow _; obtain ⟨g', cap', rfl⟩ := ownsRow_succ hown'; obtain ⟨hv1, hv2, hr2, hk2, hb2⟩ := BX.out.appended (by decide) ROW.out hs (Nat.le_refl _) hown' hgrow; have hc1 := hv1.cell; have hf1 := hv1.frozen)
      have hb1 : Boxed w1 (w2.heap.size + 1) 22 (.slice A D.length c) := (Boxed.alloc BS.out _).kept hgrow (Boxed.not_row BS.out (by decide) ROW.out)
      have hb4 : Boxed (w1.setCell ⟨w2.heap.size, 0, none⟩ (.slice (some ⟨g', 0, none⟩) (z.length + 1) cap')) (w2.heap.size + 1) 22 (.slice A D.length c) := (set_other (by omega)).trans hb1
      exact ⟨hk2.from _, ⟨hb2, fun _ => Eq.trans hb4 (Eq.symm BS.out)⟩, ⟨_, hv2, by rw [EN.out, fl_snoc, List.length_append, List.length_singleton]; exact hr2, trivial⟩, hb4, BEL.out.trans hb2⟩
  case done =>
    rintro D' ys W hD' rfl ⟨⟨v, hbx, hrow, _⟩, _, hbel⟩ hK
    rw [← EW.out] at hrow
    obtain ⟨A', c', rfl⟩ := row_form hrow
    have xb := hbx.cell
    have BEL := Lib.hid hbel
    have ROW := Lib.hid hrow
    clear hbel hrow hbx
    gi_wp2
    refine ⟨by simp, .inl ⟨_, _, rfl, run_takeDeferred hK, ?_⟩⟩
    exact ⟨_, results_tmp rfl _ _ _, A', c', rfl, ownsRow_putObj (own_base ROW.out (by omega)) _ hK rfl, XB.out.trans ((BEL.out.mono (by omega)).trans (belowK_b (w := w) (Nat.le_refl _) W D' _ _ (by omega) hK rfl rfl))⟩
  case stop =>
    rintro D' c' pre W _ _ h _
    exact h.elim
end Go.Proofs.Ytppahohakiidmaa
/- Lists that are answered if they are chains; copies of lists. -/
namespace Go.Proofs.Ytppahohakiidmaa
open Go.RowKit

/-- A list that is answered if b. -/
def selL (b : Bool) (l : List Int) : List Int := if b then l else []
theorem selL_true {b : Bool} {l : List Int} (h : b = true) : selL b l = l := by unfold selL; rw [if_pos h]
theorem selL_false {b : Bool} {l : List Int} (h : b = false) : selL b l = [] := by unfold selL; rw [h]; rfl
theorem selL_le {b : Bool} {l : List Int} (h : b = true → chG l = true) : (selL b l).length ≤ 1000 := by
  cases b with
  | false => simp [selL]
  | true => have := (chG_chn (h rfl)).most; rw [selL_true rfl]; omega
theorem and_chG {b : Bool} {l : List Int} (h : (b && chG l) = true) : chG l = true := by simp only [Bool.and_eq_true] at h; exact h.2

theorem eq_nil_I (A : Option Addr) (n c : Nat) (W : World) : (binOp .eql 22 (.slice A n c) (.slice none 0 0)).run Try.prog W = .ok (.bool A.isNone) W := by
  simp only [binOp]
  simp [run_equal_slice_nil W 22 3 A n c Try.underlying22]
theorem eq_nil_A (A : Option Addr) (n c : Nat) (W : World) : (binOp .eql 53 (.slice A n c) (.slice none 0 0)).run Try.prog W = .ok (.bool A.isNone) W := by
  simp only [binOp]
  simp [run_equal_slice_nil W 53 3 A n c Try.underlying53]
theorem Rd.addr {w : World} {B : Nat} {A : Option Addr} {l : List Int} (h : Rd w B 1 A l.length (l.map I)) (h0 : 0 < l.length) : ∃ a, A = some a := by
  obtain ⟨b, off, e, _⟩ := h.2 (by omega)
  exact ⟨_, e⟩
set_option maxRecDepth 100000 in
set_option maxHeartbeats 1000000 in
theorem cloneI_any (B : Nat) (A : Option Addr) (c : Nat) (l : List Int) (w : World) (hm : l.length ≤ 1000000) (h0 : 0 < l.length) (hB : B ≤ w.heap.size) (hr : Rd w B 1 A l.length (l.map I)) :
    Calls Try.prog 80 #[.slice A l.length c] w fun e w' => ∃ A' c', e = .returned (.slice A' l.length c') ∧ OwI w' w.heap.size (.slice A' l.length c') l ∧ Below w.heap.size w w' := by
  obtain ⟨ad, rfl⟩ := hr.addr h0
  have H := Lib.hid hr
  clear hr
  have hnil := fun W => eq_nil_I (some ad) l.length c W
  go_enter Try.func80, Try.ntmps80
  go_wp2_with (first
    | (at_builtin; refine list_step (fun K hK => ?_); refine step_appM Try.underlying22 info_int rfl (by omega) (by omega) rfl (.tmp 5) (.tmp 6) rfl w.heap.size 0 _ [] rfl (own_empty 1 (Nat.le_refl _)) _ l.length c (l.map I) rfl (H.out.alloc hB _) (ints_one l) (by omega) (by simp) ?_; intro A2 c2 w2 hown2 hg2 hbel2; go_simp; refine hK _ _ ?_; clear hK K))
  go_ret
  simp only [Nat.zero_add, List.nil_append] at hown2
  exact ⟨A2, c2, by simp, hown2, ((Below.refl _ _).alloc (Nat.le_refl _) _).trans hbel2⟩
set_option maxRecDepth 100000 in
set_option maxHeartbeats 1000000 in
theorem cloneA_any (B : Nat) (A : Option Addr) (c : Nat) (l : List Int) (w : World) (hm : l.length ≤ 1000000) (h0 : 0 < l.length) (hB : B ≤ w.heap.size) (hr : Rd w B 1 A l.length (l.map I)) :
    Calls Try.prog 83 #[.slice A l.length c] w fun e w' => ∃ A' c', e = .returned (.slice A' l.length c') ∧ OwI w' w.heap.size (.slice A' l.length c') l ∧ Below w.heap.size w w' := by
  obtain ⟨ad, rfl⟩ := hr.addr h0
  have H := Lib.hid hr
  clear hr
  have hnil := fun W => eq_nil_A (some ad) l.length c W
  go_enter Try.func83, Try.ntmps83
  go_wp2_with (first
    | (at_builtin; refine list_step (fun K hK => ?_); refine step_appM Try.underlying53 info_int rfl (by omega) (by omega) rfl (.tmp 5) (.tmp 6) rfl w.heap.size 0 _ [] rfl (own_empty 1 (Nat.le_refl _)) _ l.length c (l.map I) rfl (H.out.alloc hB _) (ints_one l) (by omega) (by simp) ?_; intro A2 c2 w2 hown2 hg2 hbel2; go_simp; refine hK _ _ ?_; clear hK K))
  go_ret
  simp only [Nat.zero_add, List.nil_append] at hown2
  exact ⟨A2, c2, by simp, hown2, ((Below.refl _ _).alloc (Nat.le_refl _) _).trans hbel2⟩
/-- The same at nil. -/
theorem cloneA_nil (w : World) : Calls Try.prog 83 #[.slice none 0 0] w fun e w' => e = .returned (.slice none 0 0) ∧ w = w' := by
  have hnil := fun W => eq_nil_A none 0 0 W
  go_enter Try.func83, Try.ntmps83
  go_wp2
  go_ret
  exact ⟨rfl, rfl⟩
end Go.Proofs.Ytppahohakiidmaa
/- The steps of two plans behind each other: the program's. -/
namespace Go.Proofs.Ytppahohakiidmaa
open Go.RowKit

/-- The names of new values. -/
def tailN (b : Int) (m : Nat) : List Int := (List.range m).map fun i : Nat => b + i
theorem tailN_length (b : Int) (m : Nat) : (tailN b m).length = m := by simp [tailN]
theorem tailN_succ (b : Int) (m : Nat) : tailN b (m + 1) = tailN b m ++ [b + m] := by simp [tailN, List.range_succ]
theorem boxesPQ {w w2 : World} {a b c a' b' c' : Value} {t t' : TypeId} (h : (w.alloc (.cells #[a, b, c] t)).alloc (.cells #[a', b', c'] t') = w2) :
    w2.heap[w.heap.size]? = some (.cells #[a, b, c] t (0, 0)) ∧ w2.heap[w.heap.size + 1]? = some (.cells #[a', b', c'] t' (0, 0)) ∧ w2.heap.size = w.heap.size + 2 ∧ Below w.heap.size w w2 := by
  subst h
  refine ⟨?_, ?_, by simp, ((Below.refl _ _).alloc (Nat.le_refl _) _).alloc (by simp) _⟩
  · rw [Below.heap_alloc _ _ _ (by simp)]; exact heap_alloc_new w _
  · have := heap_alloc_new (w.alloc (.cells #[a, b, c] t)) (.cells #[a', b', c'] t')
    simpa using this

set_option maxRecDepth 100000 in
set_option maxHeartbeats 2000000 in
theorem stepsBehind_any (B N : Nat) (A1 A2 D1 D2 A : Option Addr) (c1 c2 d1 d2 c : Nat) (p q : Pl) (L : List Int) (w : World) (hN : p.n = N) (hN6 : N ≤ 1000) (hsp : p.s.length ≤ 1000) (hsq : q.s.length ≤ 1000) (hL0 : 0 < L.length) (hL : L.length ≤ 1000) (hB : B ≤ w.heap.size)
    (hin : ∀ st ∈ q.s, 0 ≤ st.1 ∧ st.1 ≤ st.2 ∧ st.2 < (L.length : Int) + q.s.length) (hr : Rd w B 2 A1 p.s.length (fl p.s)) (hrq : Rd w B 2 D1 q.s.length (fl q.s)) (hrl : Rd w B 1 A L.length (L.map I)) :
    Calls Try.prog 159 #[.agg #[.int .i64 p.n, .slice A1 p.s.length c1, .slice A2 p.o.length c2], .agg #[.int .i64 q.n, .slice D1 q.s.length d1, .slice D2 q.o.length d2], .slice A L.length c] w fun e w' =>
      ∃ E1 E2 e1 e2, e = .returned (.tuple #[.slice E1 (p.s.length + q.s.length) e1, .slice E2 (L.length + q.s.length) e2]) ∧ OwS w' w.heap.size (.slice E1 (p.s.length + q.s.length) e1) (p.s ++ q.s.map (stN (L ++ tailN (p.n + p.s.length) q.s.length))) ∧ OwI w' w.heap.size (.slice E2 (L.length + q.s.length) e2) (L ++ tailN (p.n + p.s.length) q.s.length) ∧ Below w.heap.size w w' := by
  have H := Lib.hid hr
  have HQ := Lib.hid hrq
  have HL := Lib.hid hrl
  have HIN := Lib.hid hin
  clear hr hrq hrl hin
  rw [hN]
  clear hN
  obtain ⟨nm, hnm⟩ : ∃ nm, L ++ tailN ((N : Int) + p.s.length) q.s.length = nm := ⟨_, rfl⟩
  have hnl : nm.length = L.length + q.s.length := by rw [← hnm]; simp [tailN]
  obtain ⟨T, hT⟩ : ∃ T, q.s.map (stN nm) = T := ⟨_, rfl⟩
  have hTl : T.length = q.s.length := by rw [← hT]; simp
  rw [hnm, hT]
  have HNM := Lib.hid hnm
  have HNL := Lib.hid hnl
  have HT := Lib.hid hT
  have HTL := Lib.hid hTl
  clear hnm hnl hT hTl
  go_enter Try.func159, Try.ntmps159
  go_wp2_with fail
  go_at_call 80
  generalize hw1 : World.alloc (World.alloc w _) _ = w1
  obtain ⟨q0, q1, xs, xb⟩ := boxesPQ hw1
  clear hw1
  refine (cloneI_any w.heap.size A c L w1 (by omega) hL0 (by omega) ((HL.out.below' xb hB).more hB)).mono ?_
  rintro e w2 ⟨A3, c3, rfl, hown3, hb3⟩
  have r0 := (hb3.block w.heap.size (by omega)).trans q0
  have r1 := (hb3.block (w.heap.size + 1) (by omega)).trans q1
  obtain ⟨y0, y1, _, _, _, _⟩ := cells3 r0
  obtain ⟨_, z1, _, _, _, _⟩ := cells3 r1
  have HB2 := Lib.hid (xb.trans (hb3.mono (show w.heap.size ≤ w1.heap.size by omega)))
  have hs2 : w1.heap.size ≤ w2.heap.size := hb3.size
  have OWN3 := Lib.hid hown3
  have XS := Lib.hid xs
  have hx1 : w.heap.size + 1 < w1.heap.size := by omega
  clear q0 q1 xb hb3 r0 r1 hown3 xs
  go_wp2
  go_loopw [8, 15] (fun v i wr => ∃ (k : Nat) (A4 : Option Addr) (c4 : Nat), k ≤ q.s.length ∧ i = .int .i64 k ∧ v = .slice A4 (L.length + k) c4 ∧ wr.ownsRow w1.heap.size 3 1 (.slice A4 (L.length + k) c4) (L.length + k) ((L ++ tailN ((N : Int) + p.s.length) k).map I) ∧ Below w1.heap.size w2 wr) (fun _ i _ => q.s.length - (intOf i).toNat)
  case atStart =>
    refine ⟨0, A3, c3, by omega, rfl, rfl, ?_, Below.refl _ _⟩
    have h : w2.ownsRow w1.heap.size 3 1 (.slice A3 L.length c3) L.length (L.map I) := OWN3.out
    simpa [tailN] using h
  case round =>
    obtain ⟨k, A4, c4, hk, rfl, rfl, hown, hbel⟩ := hrel
    have hsz : w2.heap.size ≤ wr.heap.size := hbel.size
    have v0 := (hbel.cell (p := ⟨w.heap.size, 0, none⟩) (by simp only []; omega)).trans y0
    have v1 := (hbel.cell (p := ⟨w.heap.size, 1, none⟩) (by simp only []; omega)).trans y1
    have u1 := (hbel.cell (p := ⟨w.heap.size + 1, 1, none⟩) (by simp only []; omega)).trans z1
    by_cases hlt : k < q.s.length
    · have OWN := Lib.hid hown
      have BEL := Lib.hid hbel
      clear hown hbel
      go_wp2_with (at_builtin; refine list_step (fun K hK => ?_); refine step_app1 Try.underlying22 info_int rfl (by omega) rfl (.tmp 18) (.tmp 27) rfl w1.heap.size (L.length + k) _ ((L ++ tailN ((N : Int) + p.s.length) k).map I) rfl (World.ownsRow.alloc OWN.out _) wr.heap.size 1 (I ((N : Int) + p.s.length + k)) rfl (by rw [World.cell?_alloc_at _ _ _ _ rfl]; rfl) rfl (by omega) (by simp; omega) ?_; intro A5 c5 w6 hown6 hg6 hbel6; go_simp; refine hK _ _ ?_; clear hK K)
      go_roundw
      case rel =>
        refine ⟨k + 1, A5, c5, by omega, by go_num, rfl, ?_, (BEL.out.alloc (by omega) _).trans hbel6⟩
        rw [tailN_succ, ← List.append_assoc, List.map_append]
        exact hown6
      case measure => simp [intOf]; omega
    · have hk' : k = q.s.length := by omega
      subst hk'
      rw [HNM.out] at hown
      have hbw : Below w.heap.size w wr := HB2.out.trans (hbel.mono (show w.heap.size ≤ w1.heap.size by omega))
      have hwr : w.heap.size ≤ wr.heap.size := hbw.size
      have RN : Rd wr wr.heap.size 1 A4 (L.length + q.s.length) (nm.map I) := Rd.of_own hown
      have RQ : Rd wr wr.heap.size 2 D1 q.s.length (fl q.s) := (HQ.out.below' hbw hB).more (by omega)
      have RP := Lib.hid (show Rd wr wr.heap.size 2 A1 p.s.length (fl p.s) from (H.out.below' hbw hB).more (by omega))
      have hCs := renamedStepsN_any wr.heap.size D1 A4 d1 c4 q.s nm wr.drew (by omega) (by simp) (fun st hst => by
        obtain ⟨i1, i2, i3⟩ := HIN.out st hst
        have := HNL.out
        exact ⟨i1, i2, by omega⟩) RQ.drew (by rw [HNL.out]; exact RN.drew)
      rw [HNL.out, HT.out] at hCs
      have HCS := Lib.hid hCs
      have OWN := Lib.hid hown
      have HBW := Lib.hid hbw
      have FS := Lib.hid (show ∀ x, Below wr.heap.size wr x → x.cell? ⟨w.heap.size, 1, none⟩ = some (.slice A1 p.s.length c1) ∧ x.cell? ⟨w.heap.size + 1, 1, none⟩ = some (.slice D1 q.s.length d1) from fun x hx =>
        ⟨(hx.cell (p := ⟨w.heap.size, 1, none⟩) (by simp only []; omega)).trans v1, (hx.cell (p := ⟨w.heap.size + 1, 1, none⟩) (by simp only []; omega)).trans u1⟩)
      have S0 := Lib.hid (show Below wr.heap.size wr wr.drew from (Below.refl _ _).drew)
      clear hown hbel hbw RN RQ hCs v0 v1 u1 y0 y1 z1
      go_wp2
      refine wp_region_T (fun x : World => Below wr.heap.size wr x) [0, 1, 2, 3, 4, 8, 9, 10] [1, 3] (.lp 0 (.lp 2 (.lp 4 (.lp 8 (.ls 1 (.ls 3 (.hv 5 (.hv 6 (.hv 7 (.lp 9 (.lp 10 (.done)))))))))))) (by kernel_rfl) (by kernel_rfl) ?_
      (repeat (refine T_lp rfl (fun K hK => ?_); go_simp; refine hK _ ?_; clear hK K))
      refine T_ls1 (v := .slice A1 p.s.length c1) rfl rfl S0.out (fun x hx => (by obtain ⟨h0, h1⟩ := FS.out x hx; go_simp)) (fun K hK => ?_)
      (go_simp; refine hK _ ?_; clear hK K)
      refine T_ls1 (v := .slice D1 q.s.length d1) rfl rfl S0.out (fun x hx => (by obtain ⟨h0, h1⟩ := FS.out x hx; go_simp)) (fun K hK => ?_)
      (go_simp; refine hK _ ?_; clear hK K)
      refine T_hvS rfl (fun K hK => ?_)
      go_simp
      go_at_call 161
      refine HCS.out.mono ?_
      rintro e w5 ⟨A6, c6, rfl, hown6, hb6⟩
      have hb5 : Below wr.heap.size wr w5 := S0.out.trans (hb6.mono (by simp))
      have hT6 : OwS w5 wr.drew.heap.size (.slice A6 T.length c6) T := by rw [HTL.out]; exact hown6
      have RT := Lib.hid (show Rd w5 w5.heap.size 2 A6 T.length (fl T) from Rd.of_own hT6)
      have HB5 := Lib.hid hb5
      have hs5 : wr.heap.size ≤ w5.heap.size := hb5.size
      clear hown6 hb6 hT6
      go_simp
      refine hK _ _ hb5 ?_
      clear hK K hb5
      refine T_hvS rfl (fun K hK => ?_)
      go_simp
      refine hK _ _ (HB5.out.alloc hs5 _) ?_
      clear hK K
      refine T_hv rfl (by kernel_rfl) (fun K hK => ?_)
      go_simp
      go_at_call 160
      generalize hw7 : World.alloc w5 _ = w7
      obtain ⟨e0, e1, es, eb⟩ := box2 hw7
      clear hw7
      have hb7 : Below wr.heap.size wr w7 := HB5.out.trans (eb.mono hs5)
      have hCc := concatS_any w5.heap.size w5.heap.size A1 A6 c1 c6 2 p.s T w7 (by omega) (by rw [HTL.out]; omega) (by omega) e0 (by rw [HTL.out]; exact e1) (by omega) ((RP.out.below' hb7 (Nat.le_refl _)).more hs5) (RT.out.below' eb (Nat.le_refl _))
      rw [HTL.out] at hCc
      refine hCc.mono ?_
      rintro e w8 ⟨A9, c9, rfl, hown9, hb9⟩
      have hb8 : Below wr.heap.size wr w8 := hb7.trans (hb9.mono (by omega))
      have HO9 := Lib.hid (own_base hown9 (show w.heap.size ≤ w7.heap.size by omega))
      have HO8 := Lib.hid (own_base (own_below OWN.out hb8) (show w.heap.size ≤ w1.heap.size by omega))
      have HB8 := Lib.hid (HBW.out.trans (hb8.mono hwr))
      clear e0 e1 es eb hb7 hCc hown9 hb9 hb8
      (go_simp; refine hK _ _ ?_; clear hK K)
      (repeat (refine T_lp rfl (fun K hK => ?_); go_simp; refine hK _ ?_; clear hK K))
      refine T_done ?_
      go_wp2
      refine bodyPost_ret (v := .tuple #[.slice A9 (p.s.length + q.s.length) c9, .slice A4 (L.length + q.s.length) c4]) (by simp [results, Try.results159, go_sem]) rfl ⟨A9, A4, c9, c4, rfl, HO9.out, ?_, HB8.out⟩
      show World.ownsRow _ _ _ _ _ _ _
      rw [HNL.out]
      exact HO8.out
end Go.Proofs.Ytppahohakiidmaa
/- The steps of two plans behind each other: the model's. -/
namespace Go.Proofs.Ytppahohakiidmaa
open Go.RowKit

theorem tailN_get (L : List Int) (b : Int) {k m x : Nat} (hx : x < L.length + k) (hk : k ≤ m) : (L ++ tailN b m).getD x 0 = (L ++ tailN b k).getD x 0 := by
  rw [List.getD_eq_getElem?_getD, List.getD_eq_getElem?_getD, List.getElem?_append, List.getElem?_append]
  split
  · rfl
  · simp [tailN, show x - L.length < m by omega, show x - L.length < k by omega]

end Go.Proofs.Ytppahohakiidmaa
/- Plans behind each other as data; what both sides answer for a plan or none. -/
namespace Go.Proofs.Ytppahohakiidmaa
open Go.RowKit

set_option maxRecDepth 100000 in
set_option maxHeartbeats 1000000 in
theorem planOrNone_any (B : Nat) (A1 A2 : Option Addr) (c1 c2 : Nat) (p : Pl) (w : World) (hB : B ≤ w.heap.size) (hls : p.s.length ≤ 2000000) (hlo : p.o.length ≤ 2000000) (hr : RdP w B A1 A2 p) :
    Calls Try.prog 148 #[.agg #[.int .i64 p.n, .slice A1 p.s.length c1, .slice A2 p.o.length c2]] w fun e w' =>
      e = .returned (.tuple #[selV (good p) (.agg #[.int .i64 p.n, .slice A1 p.s.length c1, .slice A2 p.o.length c2]) (.agg #[.int .i64 0, .slice none 0 0, .slice none 0 0]), .bool (good p)]) ∧ Below w.heap.size w w' := by
  have H := Lib.hid hr
  clear hr
  obtain ⟨gd, hgd⟩ : ∃ x, good p = x := ⟨_, rfl⟩
  have HG := Lib.hid hgd
  go_enter Try.func148, Try.ntmps148
  go_wp2_with fail
  go_at_call 149
  generalize hw1 : World.alloc (World.alloc w _) _ = w1
  obtain ⟨q0, q1, xs, xb⟩ := boxes2b hw1
  clear hw1
  have hC := implIsPlan_any w.heap.size A1 A2 c1 c2 p w1 (by omega) hls hlo ((H.out.below' xb hB).more hB)
  rw [hgd] at hC
  refine hC.mono ?_
  rintro e w2 ⟨rfl, hb2⟩
  clear hC hgd
  obtain ⟨y0, y1, y2, _, _, _⟩ := cells3b ((hb2.block w.heap.size (by omega)).trans q0)
  obtain ⟨t0, t1, t2, g0, g1, g2⟩ := cells3b ((hb2.block (w.heap.size + 1) (by omega)).trans q1)
  have HB2 := Lib.hid (xb.trans (hb2.mono (show w.heap.size ≤ w1.heap.size by omega)))
  clear q0 q1 xs xb hb2
  cases gd with
  | false =>
    go_wp2
    refine bodyPost_ret (v := .tuple #[.agg #[.int .i64 0, .slice none 0 0, .slice none 0 0], .bool false]) (by simp [results, Try.results148, go_sem, t0, t1, t2]) rfl ⟨by rw [HG.out]; rfl, ?_⟩
    exact ((HB2.out.setCell (by simp) _).setCell (by simp) _).setCell (by simp) _
  | true =>
    go_wp2
    refine bodyPost_ret (v := .tuple #[.agg #[.int .i64 p.n, .slice A1 p.s.length c1, .slice A2 p.o.length c2], .bool true]) (by simp [results, Try.results148, go_sem, t0, t1, t2]) rfl ⟨by rw [HG.out]; rfl, ?_⟩
    exact ((HB2.out.setCell (by simp) _).setCell (by simp) _).setCell (by simp) _
def compNm (p q : Pl) : List Int := p.o ++ tailN (p.n + p.s.length) q.s.length
def compD (p q : Pl) : Pl := ⟨p.n, p.s ++ q.s.map (stN (compNm p q)), q.o.map fun x => (compNm p q).getD x.toNat 0⟩
def compB (p q : Pl) : Bool := (good p && (good q && decide ((p.o.length : Int) = q.n))) && good (compD p q)
def compR (p q : Pl) : Pl := if compB p q then compD p q else zeroP
theorem compR_true {p q : Pl} (h : compB p q = true) : compR p q = compD p q := by unfold compR; rw [if_pos h]
theorem compR_false {p q : Pl} (h : compB p q = false) : compR p q = zeroP := by unfold compR; rw [if_neg (by rw [h]; decide)]
theorem compD_s (p q : Pl) : (compD p q).s.length = p.s.length + q.s.length := by simp [compD]
theorem compD_o (p q : Pl) : (compD p q).o.length = q.o.length := by simp [compD]
theorem boxesPQZ {w w2 : World} {a b c a' b' c' : Value} {t t' : TypeId} (h : ((w.alloc (.cells #[a, b, c] t)).alloc (.cells #[a', b', c'] t')).alloc (.cells #[.int .i64 0, .slice none 0 0, .slice none 0 0] 61) = w2) :
    w2.heap[w.heap.size]? = some (.cells #[a, b, c] t (0, 0)) ∧ w2.heap[w.heap.size + 1]? = some (.cells #[a', b', c'] t' (0, 0)) ∧ w2.heap[w.heap.size + 2]? = some (.cells #[.int .i64 0, .slice none 0 0, .slice none 0 0] 61 (0, 0)) ∧ w2.heap.size = w.heap.size + 3 ∧ Below w.heap.size w w2 := by
  subst h
  refine ⟨?_, ?_, ?_, by simp, (((Below.refl _ _).alloc (Nat.le_refl _) _).alloc (by simp) _).alloc (by simp; omega) _⟩
  · rw [Below.heap_alloc _ _ _ (by simp; omega), Below.heap_alloc _ _ _ (by simp)]; exact heap_alloc_new w _
  · rw [Below.heap_alloc _ _ _ (by simp)]
    have := heap_alloc_new (w.alloc (.cells #[a, b, c] t)) (.cells #[a', b', c'] t')
    simpa using this
  · have := heap_alloc_new ((w.alloc (.cells #[a, b, c] t)).alloc (.cells #[a', b', c'] t')) (.cells #[.int .i64 0, .slice none 0 0, .slice none 0 0] 61)
    simpa using this
end Go.Proofs.Ytppahohakiidmaa
/- The maker of plans of the program: one step more, squares, the plan that it has made. -/
namespace Go.Proofs.Ytppahohakiidmaa
open Go.RowKit

/-- A maker at block g with n inputs and the steps s. -/
def MkS (w : World) (B g : Nat) (n : Int) (s : List (Int × Int)) : Prop :=
  ∃ A c, w.heap[g]? = some (.cells #[.int .i64 n, .slice A s.length c] 127 (0, 0)) ∧ OwS w B (.slice A s.length c) s
theorem MkS.same {w w' : World} {B g : Nat} {n : Int} {s : List (Int × Int)} (h : MkS w B g n s) (hk : ∀ k, k < w.heap.size → w'.heap[k]? = w.heap[k]?) : MkS w' B g n s := by
  obtain ⟨A, c, h1, h2⟩ := h
  exact ⟨A, c, (hk g (Array.getElem?_eq_some_iff.1 h1).1).trans h1, own_same h2 hk⟩
theorem MkS.below {w w' : World} {B g : Nat} {n : Int} {s : List (Int × Int)} (h : MkS w B g n s) (hb : Below w.heap.size w w') : MkS w' B g n s := h.same hb.block
theorem MkS.lt {w : World} {B g : Nat} {n : Int} {s : List (Int × Int)} (h : MkS w B g n s) : g < w.heap.size := by
  obtain ⟨A, c, h1, _⟩ := h
  exact (Array.getElem?_eq_some_iff.1 h1).1

/-- Own rows of neither steps nor makers are kept. -/
def Kp (w w' : World) : Prop := ∀ (B sz n : Nat) (e : TypeId) (v : Value) (xs : List Value), e ≠ 73 → e ≠ 127 → w.ownsRow B e sz v n xs → w'.ownsRow B e sz v n xs
theorem Kp.refl (w : World) : Kp w w := fun _ _ _ _ _ _ _ _ h => h
theorem Kp.trans {a b c : World} (h : Kp a b) (h' : Kp b c) : Kp a c := fun B sz n e v xs h1 h2 h3 => h' B sz n e v xs h1 h2 (h B sz n e v xs h1 h2 h3)
theorem Kp.ints {a b : World} (h : Kp a b) {B : Nat} {v : Value} {l : List Int} (ho : OwI a B v l) : OwI b B v l := h _ _ _ _ _ _ (by decide) (by decide) ho
theorem stI_min (a b : Int) : stI a b = (min a b, max a b) := by
  have h1 : leastI a b = min a b := by unfold leastI; split <;> omega
  have h2 : mostI a b = max a b := by unfold mostI; split <;> omega
  unfold stI
  rw [h1, h2]
theorem mk_kept {w w3 : World} {B g c : Nat} {n : Int} {s : List (Int × Int)} {A : Option Addr} {o : Obj} (hb : w.heap[g]? = some (.cells #[.int .i64 n, .slice A s.length c] 127 (0, 0))) (ho : OwS w B (.slice A s.length c) s)
    (hg : (w.alloc o).grownBy w3 (Value.slice A s.length c).ownBlock) :
    w3.heap[g]? = some (.cells #[.int .i64 n, .slice A s.length c] 127 (0, 0)) ∧ w3.frozen? ⟨g, 1, none⟩ = false ∧ w3.cell? ⟨g, 1, none⟩ = some (.slice A s.length c) := by
  have hgl : g < w.heap.size := (Array.getElem?_eq_some_iff.1 hb).1
  have hbA : (w.alloc o).heap[g]? = _ := (Below.heap_alloc w o g hgl).trans hb
  have h3 := (hg.block g (by simp; omega) (own_ne_blk (World.ownsRow.alloc ho o) hbA (by decide))).trans hbA
  exact ⟨h3, frozen_of_row w3 g 1 _ _ h3, by rw [cell_of_row w3 g 1 _ _ (0, 0) h3]; rfl⟩
theorem mk_set {w w' : World} {g : Nat} {a b u : Value} {t : TypeId} (hb : w.heap[g]? = some (.cells #[a, b] t (0, 0))) (h : w.setCell ⟨g, 1, none⟩ u = w') : w'.heap[g]? = some (.cells #[a, u] t (0, 0)) := by
  subst h
  rw [heap_setCell_same w g 1 _ t u hb]
  rfl

set_option maxRecDepth 100000 in
set_option maxHeartbeats 1000000 in
theorem makerMul_any (B g : Nat) (n : Int) (s : List (Int × Int)) (a b : Int) (w : World) (hB : B ≤ g) (hm : MkS w B g n s) (hl : s.length ≤ 1000) (hn0 : 0 ≤ n) (hn1 : n ≤ 1000) :
    Calls Try.prog 134 #[.pointer (some ⟨g, 0, none⟩), .int .i64 a, .int .i64 b] w fun e w' =>
      e = .returned (.int .i64 (n + s.length)) ∧ MkS w' B g n (s ++ [stI a b]) ∧ Below B w w' ∧ Kp w w' := by
  obtain ⟨A, c, hblk, hown⟩ := hm
  have hgl : g < w.heap.size := (Array.getElem?_eq_some_iff.1 hblk).1
  have c1 : w.cell? ⟨g, 1, none⟩ = some (.slice A s.length c) := by rw [cell_of_row w g 1 _ _ (0, 0) hblk]; rfl
  have HB := Lib.hid hblk
  have HO := Lib.hid hown
  have hBs : B ≤ w.heap.size := by omega
  clear hblk hown
  have HXY := Lib.hid (stI_min a b)
  go_enter Try.func134, Try.ntmps134
  go_wp2_with (at_builtin; refine list_step (fun K hK => ?_); refine step_app2 Try.underlying59 info_step rfl (by omega) rfl (.tmp 11) (.tmp 19) rfl B s.length _ (fl s) rfl (World.ownsRow.alloc HO.out _) w.heap.size 1 (I _) (I _) rfl (by simp; rfl) (by simp; rfl) rfl rfl (by omega) (by simp; omega) ?_; intro A3 c3 w3 hown3 hg3 hbel3; obtain ⟨hb3, f3, k3⟩ := mk_kept HB.out HO.out hg3; go_simp; refine hK _ _ ?_; clear hK K)
  obtain ⟨w4, hw4⟩ : ∃ w4, World.setCell w3 ⟨g, 1, none⟩ (.slice A3 (s.length + 1) c3) = w4 := ⟨_, rfl⟩
  rw [hw4]
  have hb4 := mk_set hb3 hw4
  have x0 : w4.cell? ⟨g, 0, none⟩ = some (.int .i64 n) := by rw [cell_of_row w4 g 0 _ _ (0, 0) hb4]; rfl
  have x1 : w4.cell? ⟨g, 1, none⟩ = some (.slice A3 (s.length + 1) c3) := by rw [cell_of_row w4 g 1 _ _ (0, 0) hb4]; rfl
  have hw : IntKind.i64.wrap (n + ((s.length : Int) + 1)) = n + ((s.length : Int) + 1) := IntWalk.i64_in _ (by omega)
  have hw2 : IntKind.i64.wrap (n + ((s.length : Int) + 1) - 1) = n + (s.length : Int) := by
    rw [IntWalk.i64_in _ (by omega)]
    omega
  have R4 := Lib.hid (show OwS w4 B (.slice A3 (s.length + 1) c3) (s ++ [stI a b]) from by
    subst hw4
    unfold OwS
    rw [HXY.out, fl_snoc, List.length_append, List.length_singleton]
    exact own_set hown3 hb3 (by decide) _)
  have B4 := Lib.hid (show Below B w w4 from by
    subst hw4
    exact (((Below.refl _ _).alloc hBs _).trans hbel3).setCell hB _)
  have K4 := Lib.hid (show Kp w w4 from fun B' sz n' e v xs h1 h2 h3 => by
    subst hw4
    exact own_set (World.ownsRow.kept (World.ownsRow.alloc h3 _) hg3 (own_ne h3 HO.out h1)) hb3 (Ne.symm h2) _)
  have HB4 := Lib.hid hb4
  clear hw4 hb4 hb3 f3 k3 hown3 hg3 hbel3
  refine wp_region_Tw [0, 1, 2, 3, 4, 5, 6, 7, 8, 9, 10, 11] [3, 7] (.lp 0 (.lp 1 (.lp 2 (.lp 4 (.lp 5 (.lp 6 (.ls 3 (.ls 7 (.lp 8 (.lp 9 (.lp 10 (.lp 11 (.done))))))))))))) (by kernel_rfl) (by kernel_rfl) ?_
  (repeat (first | (refine T_lp rfl (fun K hK => ?_); go_simp; refine hK _ ?_; clear hK K) | (refine T_ls rfl rfl (fun K hK => ?_); go_simp; refine hK _ ?_; clear hK K)))
  refine T_done ?_
  go_wp2
  go_ret
  exact ⟨rfl, ⟨A3, c3, by rw [List.length_append, List.length_singleton]; exact HB4.out, by rw [List.length_append, List.length_singleton]; exact R4.out⟩, B4.out.drew, K4.out⟩

/-- One product more: the steps and the value. -/
def muS (n : Int) (x : List (Int × Int) × Int) (b : Int) : List (Int × Int) × Int := (x.1 ++ [stI x.2 b], n + x.1.length)
/-- A product that may have no factor yet. -/
def onS (n : Int) (x : List (Int × Int) × Int) (b : Int) : List (Int × Int) × Int := if x.2 = -1 then (x.1, b) else muS n x b
/-- Squared k times. -/
def sqN (n : Int) (x : List (Int × Int) × Int) : Nat → List (Int × Int) × Int
  | 0 => x
  | k + 1 => muS n (sqN n x k) (sqN n x k).2
theorem sqN_len (n : Int) (x : List (Int × Int) × Int) (k : Nat) : (sqN n x k).1.length = x.1.length + k := by
  induction k with
  | zero => rfl
  | succ k ih => show ((sqN n x k).1 ++ [_]).length = _; rw [List.length_append, ih]; simp; omega
theorem onS_len (n : Int) (x : List (Int × Int) × Int) (b : Int) : (onS n x b).1.length ≤ x.1.length + 1 := by
  unfold onS muS
  split <;> simp

set_option maxRecDepth 100000 in
set_option maxHeartbeats 1000000 in
theorem makerOnto_any (B g : Nat) (n : Int) (x : List (Int × Int) × Int) (b : Int) (w : World) (hB : B ≤ g) (hm : MkS w B g n x.1) (hl : x.1.length ≤ 1000) (hn0 : 0 ≤ n) (hn1 : n ≤ 1000) :
    Calls Try.prog 146 #[.pointer (some ⟨g, 0, none⟩), .int .i64 x.2, .int .i64 b] w fun e w' =>
      e = .returned (.int .i64 (onS n x b).2) ∧ MkS w' B g n (onS n x b).1 ∧ Below B w w' ∧ Kp w w' := by
  obtain ⟨s, v⟩ := x
  by_cases h : v = -1
  · have E := Lib.hid (show onS n (s, v) b = (s, b) by unfold onS; rw [if_pos h])
    have HM := Lib.hid hm
    have hv : (v == -1) = true := by simpa using h
    clear hm h
    go_enter Try.func146, Try.ntmps146
    go_wp2
    go_ret
    exact ⟨by rw [E.out]; rfl, by rw [E.out]; exact HM.out, Below.refl _ _, Kp.refl _⟩
  · have E := Lib.hid (show onS n (s, v) b = muS n (s, v) b by unfold onS; rw [if_neg h])
    have HM := Lib.hid (makerMul_any B g n s v b w hB hm hl hn0 hn1)
    have hv : (v == -1) = false := by simpa using h
    clear hm h
    go_enter Try.func146, Try.ntmps146
    go_wp2_with (go_at_call 134; refine HM.out.mono ?_; rintro e w2 ⟨rfl, hm2, hb2, hk2⟩)
    go_ret
    exact ⟨by rw [E.out]; rfl, by rw [E.out]; exact hm2, hb2, hk2⟩

set_option maxRecDepth 100000 in
set_option maxHeartbeats 1000000 in
theorem makerSquare_any (B g : Nat) (n : Int) (x : List (Int × Int) × Int) (m : Nat) (w : World) (hB : B ≤ g) (hm : MkS w B g n x.1) (hl : x.1.length + m ≤ 1000) (hn0 : 0 ≤ n) (hn1 : n ≤ 1000) :
    Calls Try.prog 133 #[.pointer (some ⟨g, 0, none⟩), .int .i64 x.2, .int .i64 (m : Int)] w fun e w' =>
      e = .returned (.int .i64 (sqN n x m).2) ∧ MkS w' B g n (sqN n x m).1 ∧ Below B w w' ∧ Kp w w' := by
  have HM := Lib.hid hm
  clear hm
  go_enter Try.func133, Try.ntmps133
  go_wp2
  go_loopw [1, 8] (fun v i wr => ∃ k : Nat, k ≤ m ∧ i = .int .i64 k ∧ v = .int .i64 (sqN n x k).2 ∧ MkS wr B g n (sqN n x k).1 ∧ Below B w wr ∧ Kp w wr) (fun _ i _ => m - (intOf i).toNat)
  case atStart => exact ⟨0, by omega, rfl, rfl, HM.out, Below.refl _ _, Kp.refl _⟩
  case round =>
    obtain ⟨k, hk, rfl, rfl, hm, hbel, hkp⟩ := hrel
    have KP := Lib.hid hkp
    have BEL := Lib.hid hbel
    have M := Lib.hid hm
    clear hm hbel hkp
    by_cases hlt : k < m
    · have ik : (k : Int) < (m : Int) := by omega
      have hM := makerMul_any B g n (sqN n x k).1 (sqN n x k).2 (sqN n x k).2 wr hB M.out (by rw [sqN_len]; omega) hn0 hn1
      have HM2 := Lib.hid hM
      clear hM
      obtain ⟨y, hy⟩ : ∃ y, sqN n x k = y := ⟨_, rfl⟩
      have E := Lib.hid (show sqN n x (k + 1) = muS n y y.2 by rw [← hy]; rfl)
      rw [hy] at HM2
      rw [hy]
      clear hy
      go_wp2_with (go_at_call 134; refine HM2.out.mono ?_; rintro e w2 ⟨rfl, hm2, hb2, hk2⟩)
      go_roundw
      case rel => exact ⟨k + 1, by omega, by go_num, by rw [E.out]; rfl, by rw [E.out]; exact hm2, BEL.out.trans hb2, KP.out.trans hk2⟩
      case measure => simp [intOf]; omega
    · have e : k = m := by omega
      subst e
      go_wp2
      go_ret
      exact ⟨rfl, M.out, BEL.out, KP.out⟩

/-- The plan if it is one, otherwise the zero plan. -/
def mkR (p : Pl) : Pl := if good p then p else zeroP
theorem mkR_true {p : Pl} (h : good p = true) : mkR p = p := by unfold mkR; rw [if_pos h]
theorem mkR_false {p : Pl} (h : good p = false) : mkR p = zeroP := by unfold mkR; rw [if_neg (by rw [h]; decide)]
theorem mkR_len (p : Pl) (hs : p.s.length ≤ 1000) (ho : p.o.length ≤ 1000) : (mkR p).s.length ≤ 1000 ∧ (mkR p).o.length ≤ 1000 := by
  unfold mkR
  split
  · exact ⟨hs, ho⟩
  · exact ⟨by simp [zeroP], by simp [zeroP]⟩

set_option maxRecDepth 100000 in
set_option maxHeartbeats 2000000 in
theorem makerPlan_any (B g : Nat) (A2 : Option Addr) (c2 : Nat) (p : Pl) (w : World) (_hB : B ≤ g) (hm : MkS w B g p.n p.s) (hO : OwI w B (.slice A2 p.o.length c2) p.o) (hl : p.s.length ≤ 1000) (hlo : p.o.length ≤ 1000) :
    Calls Try.prog 147 #[.pointer (some ⟨g, 0, none⟩), .slice A2 p.o.length c2] w fun e w' =>
      ∃ R1 R2 v1 v2, e = .returned (.tuple #[.agg #[.int .i64 (mkR p).n, .slice R1 (mkR p).s.length v1, .slice R2 (mkR p).o.length v2], .bool (good p)]) ∧ OwP w' B R1 R2 v1 v2 (mkR p) ∧ Below w.heap.size w w' := by
  obtain ⟨gd, hgd⟩ : ∃ x, good p = x := ⟨_, rfl⟩
  obtain ⟨A1, c1, hblk, hown⟩ := hm
  have hgl : g < w.heap.size := (Array.getElem?_eq_some_iff.1 hblk).1
  have HBLK := Lib.hid hblk
  have HOW := Lib.hid hown
  have HO := Lib.hid hO
  have HGD := Lib.hid hgd
  have hIf := fun W E1 E2 e1 e2 hrW => planOrNone_any W.heap.size E1 E2 e1 e2 p W (Nat.le_refl _) (by omega) (by omega) hrW
  rw [hgd] at hIf
  have HIF := Lib.hid hIf
  clear hblk hown hO hgd hIf
  go_enter Try.func147, Try.ntmps147
  go_wp2
  generalize hw1 : World.alloc w _ = w1
  obtain ⟨_, _, _, xs, xb⟩ := box3 hw1
  have q0 : w1.heap[w.heap.size]? = some (.cells #[.int .i64 0, .slice none 0 0, .slice none 0 0] 61 (0, 0)) := by subst hw1; exact heap_alloc_new w _
  have hb := (xb.block g hgl).trans HBLK.out
  have x0 : w1.cell? ⟨g, 0, none⟩ = some (.int .i64 p.n) := by rw [cell_of_row w1 g 0 _ _ (0, 0) hb]; rfl
  have x1 : w1.cell? ⟨g, 1, none⟩ = some (.slice A1 p.s.length c1) := by rw [cell_of_row w1 g 1 _ _ (0, 0) hb]; rfl
  have XB := Lib.hid xb
  have XS := Lib.hid xs
  have Q0 := Lib.hid q0
  clear hw1 xb xs q0 hb
  refine wp_region_Tw [0, 1, 2, 3, 4, 5, 6, 7, 8, 9, 11, 12, 14] [3, 7] (.lp 0 (.lp 1 (.lp 2 (.lp 4 (.lp 5 (.lp 6 (.lp 8 (.ls 3 (.ls 7 (.lp 9 (.hv 10 (.lp 11 (.lp 12 (.hv 13 (.lp 14 (.done)))))))))))))))) (by kernel_rfl) (by kernel_rfl) ?_
  (repeat (first | (refine T_lp rfl (fun K hK => ?_); go_simp; refine hK _ ?_; clear hK K) | (refine T_ls rfl rfl (fun K hK => ?_); go_simp; refine hK _ ?_; clear hK K)))
  refine T_hv rfl (by kernel_rfl) (fun K hK => ?_)
  go_simp
  go_at_call 148
  have RD := Lib.hid (show RdP w1.drew w1.drew.heap.size A1 A2 p from ⟨(Rd.of_own (own_below HOW.out XB.out)).drew, (Rd.of_own (own_below HO.out XB.out)).drew⟩)
  refine (HIF.out w1.drew A1 A2 c1 c2 RD.out).mono ?_
  rintro e w5 ⟨rfl, hb5⟩
  have hb15 : Below w1.heap.size w1 w5 := ((Below.refl _ w1).drew).trans hb5
  have Q5 := Lib.hid ((hb15.block w.heap.size (by have := XS.out; omega)).trans Q0.out)
  obtain ⟨t0, t1, t2, g0, g1, g2⟩ := cells3 Q5.out
  have O5 := Lib.hid (own_below (own_below HOW.out XB.out) hb15)
  have I5 := Lib.hid (own_below (own_below HO.out XB.out) hb15)
  have B5 := Lib.hid (XB.out.trans (hb15.mono (by have := XS.out; omega)))
  clear hb15 hb5 x0 x1
  cases gd with
  | false =>
    have ER := Lib.hid (mkR_false HGD.out)
    simp only [selV, Bool.false_eq_true, if_false]
    (go_simp; refine hK _ _ ?_; clear hK K)
    (repeat (first | (refine T_lp rfl (fun K hK => ?_); go_simp; refine hK _ ?_; clear hK K) | (refine T_ls rfl rfl (fun K hK => ?_); go_simp; refine hK _ ?_; clear hK K)))
    (refine T_hv rfl (by kernel_rfl) (fun K hK => ?_); go_simp; refine hK _ _ ?_; clear hK K)
    (repeat (first | (refine T_lp rfl (fun K hK => ?_); go_simp; refine hK _ ?_; clear hK K) | (refine T_ls rfl rfl (fun K hK => ?_); go_simp; refine hK _ ?_; clear hK K)))
    refine T_done ?_
    go_wp2
    refine bodyPost_ret (v := .tuple #[.agg #[.int .i64 0, .slice none 0 0, .slice none 0 0], .bool false]) (by simp [results, Try.results147, go_sem, t0, t1, t2]) rfl ⟨none, none, 0, 0, by rw [ER.out, HGD.out]; rfl, by rw [ER.out]; exact OwP.zero _ _, ?_⟩
    exact ((B5.out.setCell (by simp) _).setCell (by simp) _).setCell (by simp) _
  | true =>
    have ER := Lib.hid (mkR_true HGD.out)
    simp only [selV, if_true]
    (go_simp; refine hK _ _ ?_; clear hK K)
    (repeat (first | (refine T_lp rfl (fun K hK => ?_); go_simp; refine hK _ ?_; clear hK K) | (refine T_ls rfl rfl (fun K hK => ?_); go_simp; refine hK _ ?_; clear hK K)))
    (refine T_hv rfl (by kernel_rfl) (fun K hK => ?_); go_simp; refine hK _ _ ?_; clear hK K)
    (repeat (first | (refine T_lp rfl (fun K hK => ?_); go_simp; refine hK _ ?_; clear hK K) | (refine T_ls rfl rfl (fun K hK => ?_); go_simp; refine hK _ ?_; clear hK K)))
    refine T_done ?_
    go_wp2
    refine bodyPost_ret (v := .tuple #[.agg #[.int .i64 p.n, .slice A1 p.s.length c1, .slice A2 p.o.length c2], .bool true]) (by simp [results, Try.results147, go_sem, t0, t1, t2]) rfl ⟨A1, A2, c1, c2, by rw [ER.out, HGD.out], ?_, ?_⟩
    · rw [ER.out]
      exact owP_of3 O5.out I5.out Q5.out (by decide) (by decide) rfl rfl _ _ _
    · exact ((B5.out.setCell (by simp) _).setCell (by simp) _).setCell (by simp) _
end Go.Proofs.Ytppahohakiidmaa
/- A plan with a step more, and its value, by the model. -/
namespace Go.Proofs.Ytppahohakiidmaa
open Go.RowKit

theorem mt_set3 {w w' : World} {g : Nat} {a b c a' b' c' : Value} {t : TypeId} (h : w.heap[g]? = some (.cells #[a, b, c] t (0, 0))) (e : ((w.setCell ⟨g, 0, none⟩ a').setCell ⟨g, 1, none⟩ b').setCell ⟨g, 2, none⟩ c' = w') : w'.heap[g]? = some (.cells #[a', b', c'] t (0, 0)) := by
  subst e
  have h1 := heap_setCell_same w g 0 _ t a' h
  have h2 := heap_setCell_same _ g 1 _ t b' h1
  have h3 := heap_setCell_same _ g 2 _ t c' h2
  rw [h3]
  rfl
theorem mt_row {w : World} {B g n : Nat} {t : TypeId} {cs : Array Value} {v u0 u1 u2 : Value} {s : List (Int × Int)} {a b : Int} (h : w.ownsRow B 73 2 v n (fl s ++ [I (leastI a b), I (mostI a b)])) (hg : w.heap[g]? = some (.cells cs t (0, 0))) (hn : n = s.length + 1 := by rfl) (ht : t ≠ 73 := by decide) :
    OwS (((w.drew.setCell ⟨g, 0, none⟩ u0).setCell ⟨g, 1, none⟩ u1).setCell ⟨g, 2, none⟩ u2) B v (s ++ [stI a b]) := by
  subst hn
  unfold OwS
  rw [fl_snoc, List.length_append, List.length_singleton]
  exact own_set3 (w := w.drew) h hg ht _ _ _

end Go.Proofs.Ytppahohakiidmaa
/- Greatest and least of a list; single binary digits. -/
namespace Go.Proofs.Ytppahohakiidmaa
open Go.RowKit

/-- The greatest of the first k, at least 0. -/
def grI (l : List Int) (k : Nat) : Int := (l.take k).foldl mostI 0
theorem grI_succ (l : List Int) {k : Nat} (hk : k < l.length) : grI l (k + 1) = mostI (grI l k) l[k] := by
  unfold grI
  rw [List.take_succ_eq_append_getElem hk, List.foldl_append]
  rfl
theorem mostI_eq (a b : Int) : mostI a b = max a b := by unfold mostI; split <;> omega
theorem grI_prop (l : List Int) : ∀ k, k ≤ l.length → 0 ≤ grI l k ∧ (∀ x ∈ l.take k, x ≤ grI l k) ∧ (grI l k = 0 ∨ grI l k ∈ l.take k) := by
  intro k
  induction k with
  | zero => intro _; simp [grI]
  | succ k ih =>
    intro hk
    obtain ⟨h1, h2, h3⟩ := ih (by omega)
    rw [grI_succ l (by omega), mostI_eq, List.take_succ_eq_append_getElem (by omega)]
    refine ⟨by omega, ?_, ?_⟩
    · intro x hx
      rcases List.mem_append.1 hx with hx | hx
      · have := h2 x hx; omega
      · rw [List.mem_singleton] at hx; omega
    · by_cases h : grI l k < l[k]
      · right; rw [show max (grI l k) l[k] = l[k] by omega]; exact List.mem_append_right _ (List.mem_singleton.2 rfl)
      · rw [show max (grI l k) l[k] = grI l k by omega]
        rcases h3 with h3 | h3
        · exact .inl h3
        · exact .inr (List.mem_append_left _ h3)
def grA (l : List Int) : Int := grI l l.length
theorem grA_prop (l : List Int) : 0 ≤ grA l ∧ (∀ x ∈ l, x ≤ grA l) ∧ (grA l = 0 ∨ grA l ∈ l) := by
  have h := grI_prop l l.length (Nat.le_refl _)
  rwa [List.take_length] at h

/-- The greatest and the least of the first k of a list that is not empty. -/
def mxI (l : List Int) (k : Nat) : Int := (l.take k).foldl (fun a b => max a b) (l.getD 0 0)
def mnI (l : List Int) (k : Nat) : Int := (l.take k).foldl (fun a b => min a b) (l.getD 0 0)
theorem mxI_succ (l : List Int) {k : Nat} (hk : k < l.length) : mxI l (k + 1) = max (mxI l k) l[k] := by
  unfold mxI
  rw [List.take_succ_eq_append_getElem hk, List.foldl_append]
  rfl
theorem mnI_succ (l : List Int) {k : Nat} (hk : k < l.length) : mnI l (k + 1) = min (mnI l k) l[k] := by
  unfold mnI
  rw [List.take_succ_eq_append_getElem hk, List.foldl_append]
  rfl
theorem mxI_one {l : List Int} (h : 0 < l.length) : mxI l 1 = l[0] := by
  rw [mxI_succ l h]
  simp [mxI, h]
theorem mnI_one {l : List Int} (h : 0 < l.length) : mnI l 1 = l[0] := by
  rw [mnI_succ l h]
  simp [mnI, h]
theorem mxI_prop {l : List Int} (h0 : 0 < l.length) : ∀ k, k ≤ l.length → (∀ x ∈ l.take k, x ≤ mxI l k) ∧ mxI l k ∈ l := by
  intro k
  induction k with
  | zero => intro _; simp [mxI, h0]
  | succ k ih =>
    intro hk
    obtain ⟨h1, h2⟩ := ih (by omega)
    rw [mxI_succ l (by omega), List.take_succ_eq_append_getElem (by omega)]
    refine ⟨?_, ?_⟩
    · intro x hx
      rcases List.mem_append.1 hx with hx | hx
      · have := h1 x hx; omega
      · rw [List.mem_singleton] at hx; omega
    · by_cases h : mxI l k < l[k]
      · rw [show max (mxI l k) l[k] = l[k] by omega]; simp
      · rw [show max (mxI l k) l[k] = mxI l k by omega]; exact h2
theorem mnI_prop {l : List Int} (h0 : 0 < l.length) : ∀ k, k ≤ l.length → (∀ x ∈ l.take k, mnI l k ≤ x) ∧ mnI l k ∈ l := by
  intro k
  induction k with
  | zero => intro _; simp [mnI, h0]
  | succ k ih =>
    intro hk
    obtain ⟨h1, h2⟩ := ih (by omega)
    rw [mnI_succ l (by omega), List.take_succ_eq_append_getElem (by omega)]
    refine ⟨?_, ?_⟩
    · intro x hx
      rcases List.mem_append.1 hx with hx | hx
      · have := h1 x hx; omega
      · rw [List.mem_singleton] at hx; omega
    · by_cases h : mnI l k < l[k]
      · rw [show min (mnI l k) l[k] = mnI l k by omega]; exact h2
      · rw [show min (mnI l k) l[k] = l[k] by omega]; simp
def mxA (l : List Int) : Int := mxI l l.length
def mnA (l : List Int) : Int := mnI l l.length
theorem mxA_prop {l : List Int} (h0 : 0 < l.length) : (∀ x ∈ l, x ≤ mxA l) ∧ mxA l ∈ l := by
  have h := mxI_prop h0 l.length (Nat.le_refl _)
  rwa [List.take_length] at h
theorem mnA_prop {l : List Int} (h0 : 0 < l.length) : (∀ x ∈ l, mnA l ≤ x) ∧ mnA l ∈ l := by
  have h := mnI_prop h0 l.length (Nat.le_refl _)
  rwa [List.take_length] at h

/-- The binary digit at a place. -/
def bitB (n p : Nat) : Bool := n / 2 ^ p % 2 == 1
theorem i64_and1 (n : Int) : bits .and .i64 n 1 = n % 2 := by
  have h127 : (BitVec.ofInt 64 1).toNat = 2 ^ 1 - 1 := by decide
  have key : (BitVec.ofInt 64 n &&& BitVec.ofInt 64 1).toNat = (n % ((2 ^ 64 : Nat) : Int)).toNat % 2 ^ 1 := by
    rw [BitVec.toNat_and, BitVec.toNat_ofInt, h127, Nat.and_two_pow_sub_one_eq_mod]
  show IntKind.i64.wrap ((BitVec.ofInt 64 n &&& BitVec.ofInt 64 1).toNat : Nat) = n % 2
  rw [key, IntKind.wrap_i64]
  omega
set_option maxHeartbeats 400000 in
theorem hasDigit_any (n p : Nat) (w : World) (hp : p ≤ 60) :
    Calls Try.prog 145 #[.int .i64 (n : Int), .int .i64 (p : Int)] w fun e w' => e = .returned (.bool (bitB n p)) ∧ w = w' := by
  obtain ⟨m, hm⟩ : ∃ m, n / 2 ^ p = m := ⟨_, rfl⟩
  have e : (n : Int) / 2 ^ p = (m : Int) := by rw [← hm]; push_cast; rfl
  have ha : bits .and .i64 (m : Int) 1 = ((m % 2 : Nat) : Int) := by rw [i64_and1]; omega
  have E := Lib.hid (show bitB n p = (m % 2 == 1) by unfold bitB; rw [hm])
  clear hm
  rcases Nat.mod_two_eq_zero_or_one m with h | h
  all_goals
    rw [h] at ha
    rw [h] at E
    clear h
    go_enter Try.func145, Try.ntmps145
    go_wp2
    go_ret
    exact ⟨ret_bool (by rw [E.out]; rfl), rfl⟩
end Go.Proofs.Ytppahohakiidmaa
/- Plans for several inputs together: as data, and by the program. -/
namespace Go.Proofs.Ytppahohakiidmaa
open Go.RowKit

def tgI (n : Int) (l : List Int) (p : Nat) (x : List (Int × Int) × Int) : Nat → List (Int × Int) × Int
  | 0 => x
  | i + 1 => if bitB (l.getD i 0).toNat p then onS n (tgI n l p x i) (i : Int) else tgI n l p x i
def tgS (n : Int) (x : List (Int × Int) × Int) : List (Int × Int) × Int := if x.2 = -1 then x else muS n x x.2
def tgP (n : Int) (l : List Int) (L : Nat) : Nat → List (Int × Int) × Int
  | 0 => ([], -1)
  | j + 1 => tgI n l (L - 1 - j) (tgS n (tgP n l L j)) l.length
theorem tgI_len (n : Int) (l : List Int) (p : Nat) (x : List (Int × Int) × Int) (k : Nat) : (tgI n l p x k).1.length ≤ x.1.length + k := by
  induction k with
  | zero => exact Nat.le_refl _
  | succ k ih =>
    unfold tgI
    split
    · have := onS_len n (tgI n l p x k) (k : Int); omega
    · omega
theorem tgS_len (n : Int) (x : List (Int × Int) × Int) : (tgS n x).1.length ≤ x.1.length + 1 := by
  unfold tgS muS
  split <;> simp
theorem tgP_len (n : Int) (l : List Int) (L : Nat) (hl : l.length ≤ 6) (j : Nat) : (tgP n l L j).1.length ≤ 7 * j := by
  induction j with
  | zero => simp [tgP]
  | succ j ih =>
    show (tgI n l (L - 1 - j) (tgS n (tgP n l L j)) l.length).1.length ≤ _
    have h1 := tgI_len n l (L - 1 - j) (tgS n (tgP n l L j)) l.length
    have h2 := tgS_len n (tgP n l L j)
    omega
/-- A value that is there, or none. -/
def vd (x : List (Int × Int) × Int) : Prop := x.2 = -1 ∨ 0 ≤ x.2
theorem vd_mu {n : Int} (hn : 0 ≤ n) (x : List (Int × Int) × Int) (b : Int) : vd (muS n x b) := .inr (by show 0 ≤ n + (x.1.length : Int); omega)
theorem vd_on {n b : Int} (hn : 0 ≤ n) (hb : 0 ≤ b) (x : List (Int × Int) × Int) : vd (onS n x b) := by
  unfold onS
  split
  · exact .inr hb
  · exact vd_mu hn x b
theorem vd_I {n : Int} (hn : 0 ≤ n) (l : List Int) (p : Nat) {x : List (Int × Int) × Int} (h : vd x) (k : Nat) : vd (tgI n l p x k) := by
  induction k with
  | zero => exact h
  | succ k ih =>
    unfold tgI
    split
    · exact vd_on hn (by omega) _
    · exact ih
theorem vd_S {n : Int} (hn : 0 ≤ n) {x : List (Int × Int) × Int} (h : vd x) : vd (tgS n x) := by
  unfold tgS
  split
  · exact h
  · exact vd_mu hn x _
theorem vd_P {n : Int} (hn : 0 ≤ n) (l : List Int) (L j : Nat) : vd (tgP n l L j) := by
  induction j with
  | zero => exact .inl rfl
  | succ j ih => exact vd_I hn l _ (vd_S hn ih) _

def togB (l : List Int) : Bool := inB l.length 1 6 && (allB l 0 1000000 && decide (grA l ≠ 0))
def togP (l : List Int) : Pl := ⟨l.length, (tgP l.length l (bl (grA l)) (bl (grA l))).1, [(tgP l.length l (bl (grA l)) (bl (grA l))).2]⟩
def togR (l : List Int) : Pl := if togB l then mkR (togP l) else zeroP
def togG (l : List Int) : Bool := togB l && good (togP l)
theorem togB_of {l : List Int} (h1 : 1 ≤ l.length) (h6 : l.length ≤ 6) : togB l = (!(decide (mnA l < 0)) && isNum (mxA l)) := by
  obtain ⟨m1, m2⟩ := mnA_prop (l := l) (by omega)
  obtain ⟨x1, x2⟩ := mxA_prop (l := l) (by omega)
  obtain ⟨g0, g1, g2⟩ := grA_prop l
  have hb : ∀ b : Bool, togB l = b ↔ ((allB l 0 1000000 && decide (grA l ≠ 0)) = b) := fun b => by
    unfold togB inB
    rw [decide_eq_true (show (1 : Int) ≤ ((l.length : Nat) : Int) by omega), decide_eq_true (show ((l.length : Nat) : Int) ≤ 6 by omega)]
    simp
  rw [hb]
  rw [Bool.eq_iff_iff]
  unfold allB inB isNum inB
  simp only [Bool.and_eq_true, List.all_eq_true, decide_eq_true_eq, Bool.not_eq_true', decide_eq_false_iff_not, ne_eq]
  constructor
  · rintro ⟨ha, hg⟩
    have := ha _ m2
    have := ha _ x2
    have hgm : grA l ∈ l := by rcases g2 with h | h; exact absurd h hg; exact h
    have := x1 _ hgm
    omega
  · rintro ⟨hm, h1, h2⟩
    refine ⟨fun x hx => ?_, ?_⟩
    · have := m1 x hx
      have := x1 x hx
      omega
    · have := g1 _ x2
      omega
theorem togB_short {l : List Int} (h : l.length < 1) : togB l = false := by
  unfold togB inB
  rw [decide_eq_false (show ¬ (1 : Int) ≤ ((l.length : Nat) : Int) by omega)]
  rfl
theorem togB_long {l : List Int} (h : 6 < l.length) : togB l = false := by
  unfold togB inB
  rw [decide_eq_false (show ¬ ((l.length : Nat) : Int) ≤ 6 by omega)]
  simp
theorem tog_gr {l : List Int} (h1 : 1 ≤ l.length) (h : isNum (mxA l) = true) : grA l = mxA l := by
  obtain ⟨x1, x2⟩ := mxA_prop (l := l) (by omega)
  obtain ⟨g0, g1, g2⟩ := grA_prop l
  have := isNum_rng h
  have := g1 _ x2
  rcases g2 with h | h
  · omega
  · have := x1 _ h
    omega
theorem tog_len (l : List Int) : (togR l).s.length ≤ 1000 ∧ (togR l).o.length ≤ 1000 := by
  unfold togR
  split
  · rename_i h
    have h6 : l.length ≤ 6 := by
      rcases Nat.lt_or_ge 6 l.length with h' | h'
      · rw [togB_long h'] at h; cases h
      · exact h'
    have hg : grA l ≤ 1000000 := by
      obtain ⟨g0, g1, g2⟩ := grA_prop l
      rcases g2 with h' | h'
      · omega
      · unfold togB allB inB at h
        simp only [Bool.and_eq_true, List.all_eq_true, decide_eq_true_eq] at h
        exact (h.2.1 _ h').2
    have hb : bl (grA l) ≤ 20 := bl_bd (by have := (grA_prop l).1; omega)
    refine mkR_len _ ?_ (by simp [togP])
    have := tgP_len l.length l (bl (grA l)) h6 (bl (grA l))
    show (tgP _ _ _ _).1.length ≤ 1000
    omega
  · exact ⟨by simp [zeroP], by simp [zeroP]⟩
end Go.Proofs.Ytppahohakiidmaa
/- Plans for several inputs together, by the program. -/
namespace Go.Proofs.Ytppahohakiidmaa
open Go.RowKit

theorem mk_new {w w1 : World} {n : Int} {B : Nat} (h : w.alloc (.cells #[.int .i64 n, .slice none 0 0] 127) = w1) :
    MkS w1 B w.heap.size n [] ∧ Below w.heap.size w w1 := by
  subst h
  exact ⟨⟨none, 0, heap_alloc_new w _, World.ownsRow_nil _ _ _ _⟩, (Below.refl _ _).alloc (Nat.le_refl _) _⟩
theorem one_row' {w : World} {B : Nat} (x : Int) (hB : B ≤ w.heap.size) : (w.alloc (.cells #[.int .i64 x] 3)).ownsRow B 3 1 (.slice (some ⟨w.heap.size, 0, none⟩) 1 1) 1 [I x] :=
  World.ownsRow_lit (base := B) (e := 3) (size := 1) w #[.int .i64 x] 1 hB (by unfold maxLen; omega) (by simp)
theorem one_row (w : World) (x : Int) : OwI (w.alloc (.cells #[.int .i64 x] 3)) w.heap.size (.slice (some ⟨w.heap.size, 0, none⟩) [x].length 1) [x] := one_row' x (Nat.le_refl _)
theorem one_new {w w1 : World} {v : Int} (h : w.alloc (.cells #[.int .i64 v] 3) = w1) : OwI w1 w.heap.size (.slice (some ⟨w.heap.size, 0, none⟩) [v].length 1) [v] ∧ Below w.heap.size w w1 := by
  subst h
  exact ⟨one_row w v, (Below.refl _ _).alloc (Nat.le_refl _) _⟩
theorem zero_box {w w1 : World} (h : w.alloc (.cells #[.int .i64 0, .slice none 0 0, .slice none 0 0] 61) = w1) :
    w1.heap[w.heap.size]? = some (.cells #[.int .i64 0, .slice none 0 0, .slice none 0 0] 61 (0, 0)) ∧ w1.heap.size = w.heap.size + 1 ∧ Below w.heap.size w w1 := by
  subst h
  exact ⟨heap_alloc_new w _, by simp, (Below.refl _ _).alloc (Nat.le_refl _) _⟩

end Go.Proofs.Ytppahohakiidmaa
/- Plans for several inputs together, by the model. -/
namespace Go.Proofs.Ytppahohakiidmaa
open Go.RowKit

/-- A local plan of the model at block g, without outputs. -/
def PkS (w : World) (B g : Nat) (n : Int) (s : List (Int × Int)) : Prop :=
  ∃ A c, w.heap[g]? = some (.cells #[.int .i64 n, .slice A s.length c, .slice none 0 0] 61 (0, 0)) ∧ OwS w B (.slice A s.length c) s
theorem PkS.below {w w' : World} {B g : Nat} {n : Int} {s : List (Int × Int)} (h : PkS w B g n s) (hb : Below w.heap.size w w') : PkS w' B g n s := by
  obtain ⟨A, c, h1, h2⟩ := h
  exact ⟨A, c, (hb.block g (Array.getElem?_eq_some_iff.1 h1).1).trans h1, own_below h2 hb⟩
theorem pk_new {w w1 : World} {n : Int} {B : Nat} (h : w.alloc (.cells #[.int .i64 n, .slice none 0 0, .slice none 0 0] 61) = w1) :
    PkS w1 B w.heap.size n [] ∧ Below w.heap.size w w1 := by
  subst h
  exact ⟨⟨none, 0, heap_alloc_new w _, World.ownsRow_nil _ _ _ _⟩, (Below.refl _ _).alloc (Nat.le_refl _) _⟩
/-- The new plan is stored. -/
theorem pk_set {w w' : World} {B g : Nat} {n : Int} {s : List (Int × Int)} {A : Option Addr} {c k : Nat} {cs : Array Value} {u0 u1 u2 : Value} (hk : s.length = k) (h : w.heap[g]? = some (.cells #[u0, u1, u2] 61 (0, 0))) (ho : OwS w B (.slice A k c) s)
    (e : ((w.setCell ⟨g, 0, none⟩ (.int .i64 n)).setCell ⟨g, 1, none⟩ (.slice A k c)).setCell ⟨g, 2, none⟩ (.slice none 0 0) = w') (_ : cs = #[u0, u1, u2] := by rfl) : PkS w' B g n s := by
  subst hk
  refine ⟨A, c, mt_set3 h e, ?_⟩
  subst e
  exact own_set3 ho h (by decide) _ _ _

theorem me_box {w w2 : World} {o1 : Obj} {a b c : Value} {t : TypeId} (h : (w.alloc o1).alloc (.cells #[a, b, c] t) = w2) : w2.heap[w.heap.size + 1]? = some (.cells #[a, b, c] t (0, 0)) ∧ w2.heap.size = w.heap.size + 1 + 1 ∧ Below w.heap.size w w2 := by
  subst h
  refine ⟨?_, by simp, ((Below.refl _ _).alloc (Nat.le_refl _) _).alloc (by simp) _⟩
  have := heap_alloc_new (w.alloc o1) (.cells #[a, b, c] t)
  simpa using this
/-- What is answered, of a plan or of none. -/
theorem selV_mk {p : Pl} {b : Bool} {A1 A2 : Option Addr} {c1 c2 : Nat} {g B C : Nat} {w w0 : World} (hb : good p = b) (ho : OwP w C A1 A2 c1 c2 p) (hC : B ≤ C) (hg : ∃ cs, w.heap[g]? = some (.cells cs 61 (0, 0))) (hbw : Below B w0 w) (hBg : B ≤ g) :
    ∃ R1 R2 v1 v2, selV b (.agg #[.int .i64 p.n, .slice A1 p.s.length c1, .slice A2 p.o.length c2]) (.agg #[.int .i64 0, .slice none 0 0, .slice none 0 0]) = .agg #[.int .i64 (mkR p).n, .slice R1 (mkR p).s.length v1, .slice R2 (mkR p).o.length v2] ∧
      OwP (((w.setCell ⟨g, 0, none⟩ (.int .i64 (mkR p).n)).setCell ⟨g, 1, none⟩ (.slice R1 (mkR p).s.length v1)).setCell ⟨g, 2, none⟩ (.slice R2 (mkR p).o.length v2)) B R1 R2 v1 v2 (mkR p) ∧
      Below B w0 (((w.setCell ⟨g, 0, none⟩ (.int .i64 (mkR p).n)).setCell ⟨g, 1, none⟩ (.slice R1 (mkR p).s.length v1)).setCell ⟨g, 2, none⟩ (.slice R2 (mkR p).o.length v2)) := by
  obtain ⟨cs, hg⟩ := hg
  cases b with
  | false =>
    rw [mkR_false hb]
    exact ⟨none, none, 0, 0, rfl, OwP.zero _ _, ((hbw.setCell hBg _).setCell hBg _).setCell hBg _⟩
  | true =>
    rw [mkR_true hb]
    exact ⟨A1, A2, c1, c2, rfl, owP_of3 (own_base ho.1 hC) (own_base ho.2 hC) hg (by decide) (by decide) rfl rfl _ _ _, ((hbw.setCell hBg _).setCell hBg _).setCell hBg _⟩
end Go.Proofs.Ytppahohakiidmaa
/- Plans through windows: the greatest number, the first powers, the squares between. -/
namespace Go.Proofs.Ytppahohakiidmaa
open Go.RowKit

theorem zeros2_own {w : World} {B : Nat} (n : Nat) (hn : n ≤ 1000) (hB : B ≤ w.heap.size) :
    OwI (w.alloc (.cells (madeCells #[Value.int .i64 0] n) 3)) B (.slice (some ⟨w.heap.size, 0, none⟩) n n) (List.replicate n (0 : Int)) := by
  have h := World.ownsRow_lit (base := B) (e := 3) (size := 1) w (madeCells #[Value.int .i64 0] n) n hB (by unfold maxLen; omega) (by simp [size_madeCells])
  unfold OwI
  simp only [List.length_replicate]
  rw [toList_madeCells_one] at h
  rw [List.map_replicate]
  exact h

def grW (l : List (Int × Int)) (k : Nat) : Int := (l.take k).foldl (fun a x => max a x.2) 0
theorem grW_succ (l : List (Int × Int)) {k : Nat} (hk : k < l.length) : grW l (k + 1) = max (grW l k) (l[k]).2 := by
  unfold grW
  rw [List.take_succ_eq_append_getElem hk, List.foldl_append]
  rfl

set_option maxRecDepth 100000 in
set_option maxHeartbeats 1000000 in
theorem greatestOf_any (B : Nat) (A : Option Addr) (c : Nat) (l : List (Int × Int)) (w : World) (hB : B ≤ w.heap.size) (hl : l.length ≤ 1000) (hr : Rd w B 2 A l.length (fl l)) :
    Calls Try.prog 130 #[.slice A l.length c] w fun e w' => e = .returned (.int .i64 (grW l l.length)) ∧ Below w.heap.size w w' := by
  have H := Lib.hid hr
  clear hr
  go_enter Try.func130, Try.ntmps130
  go_wp2
  go_loopw [3, 8] (fun m i wr => ∃ k : Nat, k ≤ l.length ∧ i = .int .i64 k ∧ m = .int .i64 (grW l k) ∧ Below w.heap.size w wr) (fun _ i _ => l.length - (intOf i).toNat)
  case atStart => exact ⟨0, by omega, rfl, rfl, Below.refl _ _⟩
  case round =>
    obtain ⟨k, hk, rfl, rfl, hbel⟩ := hrel
    have BEL := Lib.hid hbel
    have hs := hbel.size
    by_cases hlt : k < l.length
    · have ik : (k : Int) < (l.length : Int) := by omega
      obtain ⟨b, off, rfl, hb, hc1, hc2⟩ := (H.out.below' hbel hB).stp hlt
      obtain ⟨m, hm⟩ : ∃ m, grW l k = m := ⟨_, rfl⟩
      have E := Lib.hid (grW_succ l hlt)
      obtain ⟨p, hp⟩ : ∃ p, l[k] = p := ⟨_, rfl⟩
      rw [hp] at hc1 hc2
      rw [hm, hp] at E
      rw [hm]
      clear hm hp hbel
      go_wp2
      go_roundw
      case rel => exact ⟨k + 1, by omega, by go_num, by rw [E.out], by first | exact BEL.out.alloc hs _ | exact ((BEL.out.alloc hs _).setCell (by simpa using hs) _) | exact (((BEL.out.alloc hs _).setCell (by simpa using hs) _).setCell (by simpa using hs) _)⟩
      case measure => simp [intOf]; omega
    · have e : k = l.length := by omega
      subst e
      go_wp2
      go_ret
      exact ⟨rfl, BEL.out⟩

set_option maxRecDepth 100000 in
set_option maxHeartbeats 1000000 in
theorem allPowers1_any (g : Nat) (w : World) : Calls Try.prog 129 #[.pointer (some ⟨g, 0, none⟩), .int .i64 1] w fun e w' =>
    ∃ A c, e = .returned (.slice A 2 c) ∧ OwI w' w.heap.size (.slice A 2 c) [0, 0] ∧ Below w.heap.size w w' := by
  have hmk : ∀ W : World, (Instr.makeSlice 22 (.int .i64 2) (.int .i64 2)).run Try.prog W = .ok (.slice (some ⟨W.heap.size, 0, none⟩) 2 2) (W.alloc (.cells (madeCells #[.int .i64 0] 2) 3)) := run_make_row' (P := Try.prog) 22 3 (.int .i64 0) 8 Try.underlying22 info_int rfl .i64 .i64 2 (by omega) (by omega)
  have hz := zeros2_own (w := w) (B := w.heap.size) 2 (by omega) (Nat.le_refl _)
  have HZ := Lib.hid hz
  clear hz
  go_enter Try.func129, Try.ntmps129
  go_wp2
  clear hmk
  generalize hw1 : World.alloc w _ = w1
  have hm : OwI w1 w.heap.size (.slice (some ⟨w.heap.size, 0, none⟩) 2 2) [0, 0] := by rw [← hw1]; exact HZ.out
  have hb : Below w.heap.size w w1 := by rw [← hw1]; exact (Below.refl _ _).alloc (Nat.le_refl _) _
  have HM := Lib.hid hm
  have HB := Lib.hid hb
  clear hw1 hm hb
  go_loopw [6] (fun i wr => i = .int .i64 2 ∧ wr = w1) (fun _ _ => 0)
  case atStart => exact ⟨rfl, rfl⟩
  case round =>
    obtain ⟨rfl, rfl⟩ := hrel
    go_wp2
    go_ret
    exact ⟨_, 2, rfl, HM.out, HB.out⟩

def thF (pw : List Int) (s : (List (Int × Int) × Int) × Int) (w : Int × Int) : (List (Int × Int) × Int) × Int := (muS 1 (sqN 1 s.1 (s.2 - w.1).toNat) (pw.getD w.2.toNat 0), w.1)
def thI (pw : List Int) (x0 : List (Int × Int)) (W : List (Int × Int)) (i : Nat) : (List (Int × Int) × Int) × Int :=
  ((W.drop 1).take i).foldl (thF pw) ((x0, pw.getD (W.getD 0 (0, 0)).2.toNat 0), (W.getD 0 (0, 0)).1)
def thE (pw : List Int) (x0 : List (Int × Int)) (W : List (Int × Int)) : List (Int × Int) × Int :=
  sqN 1 (thI pw x0 W (W.length - 1)).1 (thI pw x0 W (W.length - 1)).2.toNat
def thP (pw : List Int) (x0 : List (Int × Int)) (W : List (Int × Int)) : Pl := ⟨1, (thE pw x0 W).1, [(thE pw x0 W).2]⟩
theorem thI_succ (pw : List Int) (x0 : List (Int × Int)) {W : List (Int × Int)} {i : Nat} (hi : i + 1 < W.length) : thI pw x0 W (i + 1) = thF pw (thI pw x0 W i) W[i + 1] := by
  unfold thI
  rw [List.take_succ_eq_append_getElem (by simp; omega), List.foldl_append]
  simp
/-- Windows that go down. -/
structure WinOk (n : Nat) (W : List (Int × Int)) : Prop where
  pos : 1 ≤ W.length
  few : W.length ≤ 20
  rng : ∀ i (h : i < W.length), 0 ≤ (W[i]).1 ∧ (W[i]).1 ≤ 20 ∧ 0 ≤ (W[i]).2 ∧ (W[i]).2 < n
  dec : ∀ i (h : i + 1 < W.length), (W[i + 1]).1 ≤ (W[i]'(by omega)).1
theorem thI_low (pw : List Int) (x0 : List (Int × Int)) {W : List (Int × Int)} {i : Nat} (hi : i < W.length) : (thI pw x0 W i).2 = (W[i]).1 := by
  cases i with
  | zero => simp [thI, hi]
  | succ i => rw [thI_succ pw x0 hi]; rfl
theorem thI_len (pw : List Int) (x0 : List (Int × Int)) {n : Nat} {W : List (Int × Int)} (hW : WinOk n W) : ∀ i, i < W.length → (thI pw x0 W i).1.1.length ≤ x0.length + 21 * i := by
  intro i
  induction i with
  | zero => intro _; simp [thI]
  | succ i ih =>
    intro hi
    rw [thI_succ pw x0 hi]
    have h1 := ih (by omega)
    have h2 := hW.rng i (by omega)
    have h3 := hW.rng (i + 1) hi
    show ((sqN 1 (thI pw x0 W i).1 ((thI pw x0 W i).2 - (W[i + 1]).1).toNat).1 ++ [_]).length ≤ _
    rw [List.length_append, sqN_len, thI_low pw x0 (by omega)]
    simp only [List.length_singleton]
    omega

/-- A box of two cells is kept by the maker. -/
theorem Kp.box {w w' : World} (h : Kp w w') {k : Nat} {u0 u1 : Value} (hb : w.heap[k]? = some (.cells #[u0, u1] 136 (0, 0))) : w'.cell? ⟨k, 0, none⟩ = some u0 ∧ w'.cell? ⟨k, 1, none⟩ = some u1 := by
  have ho : w.ownsRow k 136 2 (.slice (some ⟨k, 0, none⟩) 1 1) 1 [u0, u1] :=
    ⟨rfl, .inr ⟨k, 1, #[u0, u1], rfl, Nat.le_refl _, hb, Nat.le_refl _, by decide, rfl, rfl⟩⟩
  have h2 := h _ _ _ _ _ _ (by decide) (by decide) ho
  have h3 := Rd.of_own h2
  obtain ⟨b, off, e, _, hc⟩ := h3.2 (by omega)
  cases e
  exact ⟨hc 0 (by simp), hc 1 (by simp)⟩
theorem Kp.win {a b : World} (h : Kp a b) {B : Nat} {v : Value} {l : List (Int × Int)} (ho : OwW a B v l) : OwW b B v l := h _ _ _ _ _ _ (by decide) (by decide) ho
theorem Kp.alloc (w : World) (o : Obj) : Kp w (w.alloc o) := fun _ _ _ _ _ _ _ _ h => h.alloc o
end Go.Proofs.Ytppahohakiidmaa
/- Plans through windows, by the program. -/
namespace Go.Proofs.Ytppahohakiidmaa
open Go.RowKit

/-- A block of another type is kept by the maker. -/
theorem Kp.blk {w w' : World} (h : Kp w w') {k : Nat} {cs : Array Value} {t : TypeId} (hb : w.heap[k]? = some (.cells cs t (0, 0))) (h1 : t ≠ 73 := by decide) (h2 : t ≠ 127 := by decide) : w'.heap[k]? = some (.cells cs t (0, 0)) := by
  have ho : w.ownsRow k t cs.size (.slice (some ⟨k, 0, none⟩) 1 1) 1 cs.toList :=
    ⟨by simp, .inr ⟨k, 1, cs, rfl, Nat.le_refl _, hb, Nat.le_refl _, by decide, by simp, List.take_of_length_le (by simp)⟩⟩
  obtain ⟨_, ⟨e, _⟩ | ⟨g, cap, cur, e, _, hb', _, _, hs, ht⟩⟩ := h _ _ _ _ _ _ h1 h2 ho
  · cases e
  · cases e
    rw [hb']
    have : cur = cs := by
      apply Array.ext'
      rw [← ht, List.take_of_length_le (by simp; omega)]
    rw [this]
theorem row_cap {w : World} {B k n c : Nat} {e : TypeId} {A : Option Addr} {xs : List Value} (h : w.ownsRow B e k (.slice A n c) n xs) (h1 : 1 ≤ n) : n ≤ c := by
  rcases h.2 with ⟨_, h0⟩ | ⟨g, cap, cur, e, _, _, hc, _⟩
  · omega
  · cases e; exact hc

set_option maxRecDepth 100000 in
set_option maxHeartbeats 4000000 in
theorem through_any (B g : Nat) (A AP : Option Addr) (c cp B1 B2 : Nat) (W : List (Int × Int)) (pw : List Int) (x0 : List (Int × Int)) (w : World) (hB : B ≤ g) (hm : MkS w B g 1 x0) (hW : WinOk pw.length W) (hx0 : x0.length ≤ 100) (_hp : pw.length ≤ 1000)
    (ho : OwW w B1 (.slice A W.length c) W) (hop : OwI w B2 (.slice AP pw.length cp) pw) :
    Calls Try.prog 128 #[.pointer (some ⟨g, 0, none⟩), .slice A W.length c, .slice AP pw.length cp] w fun e w' =>
      ∃ R1 R2 v1 v2, e = .returned (.tuple #[.agg #[.int .i64 (trimR (thP pw x0 W)).n, .slice R1 (trimR (thP pw x0 W)).s.length v1, .slice R2 (trimR (thP pw x0 W)).o.length v2], .bool (good (thP pw x0 W))]) ∧ OwP w' w.heap.size R1 R2 v1 v2 (trimR (thP pw x0 W)) ∧ Below B w w' := by
  have hgl := hm.lt
  have h1 := hW.pos
  have h20 := hW.few
  obtain ⟨r1, r2, r3, r4⟩ := hW.rng 0 (by omega)
  have MK := Lib.hid hm
  have OW := Lib.hid ho
  have OP := Lib.hid hop
  have HW := Lib.hid hW
  obtain ⟨b, off, hA, hb, hc1, hc2⟩ := (Rd.of_own ho).stp (k := 0) (by omega)
  have hbw := hb
  obtain ⟨p0, hp0⟩ : ∃ p, W[0] = p := ⟨_, rfl⟩
  rw [hp0] at hc1 hc2 r1 r2 r3 r4
  obtain ⟨i0, hi0⟩ : ∃ i : Nat, p0.2 = (i : Int) := ⟨p0.2.toNat, by omega⟩
  have hi0l : i0 < pw.length := by omega
  obtain ⟨pb, poff, hAP, hpb, hpc⟩ := hop.rd.int hi0l
  have ii0 : (i0 : Int) < (pw.length : Int) := by omega
  have iw0 : (0 : Int) < (W.length : Int) := by omega
  rw [hi0] at hc2
  have E0 := Lib.hid (show thI pw x0 W 0 = ((x0, pw[i0]), p0.1) by
    unfold thI
    have hd : W.getD 0 (0, 0) = p0 := by rw [← hp0]; simp [List.getElem?_eq_getElem (show 0 < W.length by omega)]
    rw [hd, hi0]
    simp [hi0l])
  simp only [Nat.zero_mul, Nat.add_zero] at hc1 hc2
  clear hm ho hop hW hp0
  subst hA
  subst hAP
  by_cases hce : c = 1
  case pos =>
    subst hce
    go_enter Try.func128, Try.ntmps128
    go_wp2_with fail
    generalize hw1 : World.alloc w _ = w1
    obtain ⟨q0, xs, xb⟩ := zero_box hw1
    have hk1 : Kp w w1 := by subst hw1; exact Kp.alloc _ _
    have M1 := Lib.hid (MK.out.below xb)
    have OW1 := Lib.hid (hk1.win OW.out)
    have OP1 := Lib.hid (hk1.ints OP.out)
    have Q0 := Lib.hid q0
    have XB := Lib.hid xb
    clear hw1 q0 xb hc1 hc2 hpc hk1
    go_loopw [8, 9, 26] (fun vv lv iv wr => ∃ i : Nat, i + 1 ≤ W.length ∧ iv = .int .i64 i ∧ vv = .int .i64 (thI pw x0 W i).1.2 ∧ lv = .int .i64 (thI pw x0 W i).2 ∧ MkS wr B g 1 (thI pw x0 W i).1.1 ∧ OwW wr B1 (.slice (some ⟨b, off, none⟩) W.length 1) W ∧ OwI wr B2 (.slice (some ⟨pb, poff, none⟩) pw.length cp) pw ∧ wr.heap[w.heap.size]? = some (.cells #[.int .i64 0, .slice none 0 0, .slice none 0 0] 61 (0, 0)) ∧ Below B w wr) (fun _ _ iv _ => W.length - (intOf iv).toNat)
    case atStart => exact ⟨0, by omega, rfl, by rw [E0.out], by rw [E0.out], by rw [E0.out]; exact M1.out, OW1.out, OP1.out, Q0.out, XB.out.mono (by omega)⟩
    case round =>
      obtain ⟨i, hi, rfl, rfl, rfl, hmk, how, hoi, hq, hbel⟩ := hrel
      have MR := Lib.hid hmk
      have WR := Lib.hid how
      have PR := Lib.hid hoi
      have QR := Lib.hid hq
      have BEL := Lib.hid hbel
      have hlen := thI_len pw x0 HW.out i (by omega)
      have hlow := thI_low pw x0 (W := W) (i := i) (by omega)
      have hri := HW.out.rng i (by omega)
      clear hmk how hoi hq hbel
      by_cases hlt : i + 1 < W.length
      · exfalso
        have := row_cap OW.out (by omega)
        omega
      · have ei : i = W.length - 1 := by omega
        have il : ¬ (i : Int) < ((W.length - 1 : Nat) : Int) := by omega
        have EE := Lib.hid (show thP pw x0 W = ⟨1, (sqN 1 (thI pw x0 W i).1 (thI pw x0 W i).2.toNat).1, [(sqN 1 (thI pw x0 W i).1 (thI pw x0 W i).2.toNat).2]⟩ by unfold thP thE; rw [ei])
        rw [← hlow] at hri
        obtain ⟨y, hy⟩ : ∃ y, thI pw x0 W i = y := ⟨_, rfl⟩
        rw [hy] at MR hlen hri EE
        rw [hy]
        obtain ⟨d, hd⟩ : ∃ d : Nat, y.2 = (d : Int) := ⟨y.2.toNat, by omega⟩
        have hgr : g < wr.heap.size := MR.out.lt
        rw [show y.2.toNat = d by omega] at EE
        have hS := makerSquare_any B g 1 y.1 d wr hB MR.out (by omega) (by omega) (by omega)
        have hsl : (sqN 1 y.1 d).1.length ≤ 1000 := by rw [sqN_len]; omega
        obtain ⟨z, hz⟩ : ∃ z, sqN 1 y.1 d = z := ⟨_, rfl⟩
        rw [hz] at hS hsl EE
        have HS := Lib.hid hS
        clear hlow hy hS hz
        go_wp2_with fail
        go_at_call 133
        refine HS.out.mono ?_
        rintro e w3 ⟨rfl, hm3, hb3, hk3⟩
        have M3 := Lib.hid hm3
        have Q3 := Lib.hid (Kp.blk hk3 QR.out)
        have B3 := Lib.hid (BEL.out.trans hb3)
        clear hm3 hb3 hk3
        go_wp2_with fail
        obtain ⟨A4, c4, hblk, hown⟩ := M3.out
        have hg3 : g < w3.heap.size := M3.out.lt
        have y0 : w3.cell? ⟨g, 0, none⟩ = some (.int .i64 1) := by rw [cell_of_row w3 g 0 _ _ (0, 0) hblk]; rfl
        have y1 : w3.cell? ⟨g, 1, none⟩ = some (.slice A4 z.1.length c4) := by rw [cell_of_row w3 g 1 _ _ (0, 0) hblk]; rfl
        have HOW := Lib.hid hown
        have FS := Lib.hid (show ∀ x, Below w3.heap.size w3 x → x.cell? ⟨g, 0, none⟩ = some (.int .i64 1) ∧ x.cell? ⟨g, 1, none⟩ = some (.slice A4 z.1.length c4) from fun x hx =>
          ⟨(hx.cell (p := ⟨g, 0, none⟩) hg3).trans y0, (hx.cell (p := ⟨g, 1, none⟩) hg3).trans y1⟩)
        have HC := Lib.hid (show Below w3.heap.size w3 w3.drew from (Below.refl _ _).drew)
        clear hblk hown y0 y1
        refine wp_region_T (fun x : World => Below w3.heap.size w3 x) [0, 1, 2, 3, 4, 5, 6, 7, 8, 10, 12, 13, 15] [3, 7] (.lp 0 (.lp 1 (.lp 2 (.lp 4 (.lp 5 (.lp 6 (.lp 8 (.ls 3 (.ls 7 (.hv 9 (.lp 10 (.hv 11 (.lp 12 (.lp 13 (.hv 14 (.lp 15 (.done))))))))))))))))) (by kernel_rfl) (by kernel_rfl) ?_
        (repeat (refine T_lp rfl (fun K hK => ?_); go_simp; refine hK _ ?_; clear hK K))
        refine T_ls1 (v := .int .i64 1) rfl rfl HC.out (fun x hx => (by obtain ⟨h0, h1⟩ := FS.out x hx; go_simp)) (fun K hK => ?_)
        (go_simp; refine hK _ ?_; clear hK K)
        refine T_ls1 (v := .slice A4 z.1.length c4) rfl rfl HC.out (fun x hx => (by obtain ⟨h0, h1⟩ := FS.out x hx; go_simp)) (fun K hK => ?_)
        (go_simp; refine hK _ ?_; clear hK K)
        generalize World.drew w3 = wd at HC ⊢
        have hbd := HC.out
        have hsd := hbd.size
        refine T_hvS rfl (fun K hK => ?_)
        go_simp
        refine hK _ _ (HC.out.alloc HC.out.size _) ?_
        clear hK K
        (repeat (refine T_lp rfl (fun K hK => ?_); go_simp; refine hK _ ?_; clear hK K))
        refine T_hv rfl (by kernel_rfl) (fun K hK => ?_)
        go_simp
        go_at_call 135
        generalize hw5 : World.alloc wd _ = w5
        obtain ⟨ho5, hb5⟩ := one_new hw5
        clear hw5
        have hb35 : Below w3.heap.size w3 w5 := hbd.trans (hb5.mono hsd)
        have RD := Lib.hid (show RdP w5 w5.heap.size A4 (some ⟨wd.heap.size, 0, none⟩) ⟨1, z.1, [z.2]⟩ from ⟨Rd.of_own (own_below HOW.out hb35), Rd.of_own ho5⟩)
        have q5 := (hb35.block w.heap.size (by have := (Array.getElem?_eq_some_iff.1 Q3.out).1; omega)).trans Q3.out
        have Q5 := Lib.hid q5
        have B5 := Lib.hid (B3.out.trans (hb35.mono (by omega)))
        clear ho5 hb5 hb35 q5 hbd
        refine (implTrim_any w5.heap.size A4 (some ⟨wd.heap.size, 0, none⟩) c4 1 ⟨1, z.1, [z.2]⟩ w5 (Nat.le_refl _) (by show z.1.length ≤ 2000000; omega) (by simp) RD.out).mono ?_
        rw [← EE.out]
        rintro e w6 ⟨R1, R2, v1, v2, rfl, ho6, hb6⟩
        have q6 := (hb6.block w.heap.size (by have := (Array.getElem?_eq_some_iff.1 Q5.out).1; omega)).trans Q5.out
        obtain ⟨t0, t1, t2, g0, g1, g2⟩ := cells3 q6
        have hs5 : w.heap.size ≤ w5.heap.size := by have := (Array.getElem?_eq_some_iff.1 Q5.out).1; omega
        have O6 := Lib.hid (show OwP w6 w.heap.size R1 R2 v1 v2 (trimR (thP pw _ W)) from OwP.base ho6 hs5)
        have Q6 := Lib.hid q6
        have B6 := Lib.hid (B5.out.trans (hb6.mono (show B ≤ w5.heap.size by omega)))
        clear ho6 hb6 q6
        (go_simp; refine hK _ _ ?_; clear hK K)
        (repeat (first | (refine T_lp rfl (fun K hK => ?_); go_simp; refine hK _ ?_; clear hK K) | (refine T_ls rfl rfl (fun K hK => ?_); go_simp; refine hK _ ?_; clear hK K)))
        (refine T_hv rfl (by kernel_rfl) (fun K hK => ?_); go_simp; refine hK _ _ ?_; clear hK K)
        (repeat (first | (refine T_lp rfl (fun K hK => ?_); go_simp; refine hK _ ?_; clear hK K) | (refine T_ls rfl rfl (fun K hK => ?_); go_simp; refine hK _ ?_; clear hK K)))
        refine T_done ?_
        go_wp2
        refine bodyPost_ret (v := .tuple #[.agg #[.int .i64 (trimR (thP pw _ W)).n, .slice R1 (trimR (thP pw _ W)).s.length v1, .slice R2 (trimR (thP pw _ W)).o.length v2], .bool (good (thP pw _ W))]) (by simp [results, Try.results128, go_sem, t0, t1, t2]) rfl ⟨R1, R2, v1, v2, rfl, ?_, ?_⟩
        · exact owP_of3 O6.out.1 O6.out.2 Q6.out (by decide) (by decide) rfl rfl _ _ _
        · exact ((B6.out.setCell (show B ≤ w.heap.size by omega) _).setCell (show B ≤ w.heap.size by omega) _).setCell (show B ≤ w.heap.size by omega) _
  case neg =>
    go_enter Try.func128, Try.ntmps128
    go_wp2_with fail
    generalize hw1 : World.alloc w _ = w1
    obtain ⟨q0, xs, xb⟩ := zero_box hw1
    have hk1 : Kp w w1 := by subst hw1; exact Kp.alloc _ _
    have M1 := Lib.hid (MK.out.below xb)
    have OW1 := Lib.hid (hk1.win OW.out)
    have OP1 := Lib.hid (hk1.ints OP.out)
    have Q0 := Lib.hid q0
    have XB := Lib.hid xb
    clear hw1 q0 xb hc1 hc2 hpc hk1
    go_loopw [8, 9, 26] (fun vv lv iv wr => ∃ i : Nat, i + 1 ≤ W.length ∧ iv = .int .i64 i ∧ vv = .int .i64 (thI pw x0 W i).1.2 ∧ lv = .int .i64 (thI pw x0 W i).2 ∧ MkS wr B g 1 (thI pw x0 W i).1.1 ∧ OwW wr B1 (.slice (some ⟨b, off, none⟩) W.length c) W ∧ OwI wr B2 (.slice (some ⟨pb, poff, none⟩) pw.length cp) pw ∧ wr.heap[w.heap.size]? = some (.cells #[.int .i64 0, .slice none 0 0, .slice none 0 0] 61 (0, 0)) ∧ Below B w wr) (fun _ _ iv _ => W.length - (intOf iv).toNat)
    case atStart => exact ⟨0, by omega, rfl, by rw [E0.out], by rw [E0.out], by rw [E0.out]; exact M1.out, OW1.out, OP1.out, Q0.out, XB.out.mono (by omega)⟩
    case round =>
      obtain ⟨i, hi, rfl, rfl, rfl, hmk, how, hoi, hq, hbel⟩ := hrel
      have MR := Lib.hid hmk
      have WR := Lib.hid how
      have PR := Lib.hid hoi
      have QR := Lib.hid hq
      have BEL := Lib.hid hbel
      have hlen := thI_len pw x0 HW.out i (by omega)
      have hlow := thI_low pw x0 (W := W) (i := i) (by omega)
      have hri := HW.out.rng i (by omega)
      clear hmk how hoi hq hbel
      by_cases hlt : i + 1 < W.length
      · have il : (i : Int) < ((W.length - 1 : Nat) : Int) := by omega
        obtain ⟨b2, off2, hA2, hb2, hc1, hc2⟩ := (Rd.of_own WR.out).stp hlt
        cases hA2
        have hr2 := HW.out.rng (i + 1) hlt
        have hde := HW.out.dec i hlt
        rw [← hlow] at hri hde
        have ES := Lib.hid (thI_succ pw x0 hlt)
        obtain ⟨p, hp1⟩ : ∃ p, W[i + 1] = p := ⟨_, rfl⟩
        obtain ⟨y, hy⟩ : ∃ y, thI pw x0 W i = y := ⟨_, rfl⟩
        rw [hp1, hy] at ES
        rw [hp1] at hc1 hc2 hr2 hde
        rw [hy] at MR hlen hri hde
        rw [hy]
        obtain ⟨d, hd⟩ : ∃ d : Nat, y.2 - p.1 = (d : Int) := ⟨(y.2 - p.1).toNat, by omega⟩
        obtain ⟨j, hj⟩ : ∃ j : Nat, p.2 = (j : Int) := ⟨p.2.toNat, by omega⟩
        rw [hj] at hc2
        rw [show off + (i + 1) * 2 = off + 2 + i * 2 by omega] at hc1 hc2
        have hjl : j < pw.length := by omega
        have ij : (j : Int) < (pw.length : Int) := by omega
        clear hlow hp1 hy
        go_wp2_with fail
        go_at_call 133
        generalize hwb : World.alloc wr _ = wb
        have bx : wb.heap[wr.heap.size]? = some (.cells #[.int .i64 p.1, .int .i64 (j : Int)] 136 (0, 0)) := by subst hwb; exact heap_alloc_new wr _
        have kb : Kp wr wb := by subst hwb; exact Kp.alloc _ _
        have bb : Below wr.heap.size wr wb := by subst hwb; exact (Below.refl _ _).alloc (Nat.le_refl _) _
        have hgr : g < wr.heap.size := MR.out.lt
        have MB := Lib.hid (MR.out.below bb)
        have BB := Lib.hid (BEL.out.trans (bb.mono (show B ≤ wr.heap.size by omega)))
        clear hwb bb hc1 hc2
        refine (makerSquare_any B g 1 y.1 d wb hB MB.out (by omega) (by omega) (by omega)).mono ?_
        rintro e w3 ⟨rfl, hm3, hb3, hk3⟩
        have k3 := kb.trans hk3
        obtain ⟨v0, v1⟩ := Kp.box hk3 bx
        obtain ⟨pb2, poff2, hA3, hpb2, hpc⟩ := (show OwI w3 B2 (.slice (some ⟨pb, poff, none⟩) pw.length cp) pw from k3.ints PR.out).rd.int hjl
        cases hA3
        have hsl : (sqN 1 y.1 d).1.length ≤ 1000 := by rw [sqN_len]; omega
        obtain ⟨z, hz⟩ : ∃ z, sqN 1 y.1 d = z := ⟨_, rfl⟩
        obtain ⟨q, hq⟩ : ∃ q, pw[j] = q := ⟨_, rfl⟩
        have ES2 := Lib.hid (show thI pw x0 W (i + 1) = (muS 1 z q, p.1) by
          rw [ES.out]
          unfold thF
          rw [show (y.2 - p.1).toNat = d by omega, hz, hj]
          simp [hjl, hq])
        rw [hz] at hm3 hsl
        rw [hz]
        rw [hq] at hpc
        have M3 := Lib.hid hm3
        have B3 := Lib.hid (BB.out.trans hb3)
        have K3 := Lib.hid k3
        have BX3 := Lib.hid (Kp.blk hk3 bx)
        clear hm3 hb3 hk3 k3 kb bx hz hq
        go_wp2_with (go_at_call 134; refine (makerMul_any B g 1 z.1 z.2 q w3 hB M3.out hsl (by omega) (by omega)).mono ?_; rintro e w4 ⟨rfl, hm4, hb4, hk4⟩; obtain ⟨v2, v3⟩ := Kp.box hk4 BX3.out)
        go_roundw
        case rel => exact ⟨i + 1, by omega, by go_num, by rw [ES2.out]; rfl, by rw [ES2.out], by rw [ES2.out]; exact hm4, (K3.out.trans hk4).win WR.out, (K3.out.trans hk4).ints PR.out, (K3.out.trans hk4).blk QR.out, B3.out.trans hb4⟩
        case measure => simp [intOf]; omega
      · have ei : i = W.length - 1 := by omega
        have il : ¬ (i : Int) < ((W.length - 1 : Nat) : Int) := by omega
        have EE := Lib.hid (show thP pw x0 W = ⟨1, (sqN 1 (thI pw x0 W i).1 (thI pw x0 W i).2.toNat).1, [(sqN 1 (thI pw x0 W i).1 (thI pw x0 W i).2.toNat).2]⟩ by unfold thP thE; rw [ei])
        rw [← hlow] at hri
        obtain ⟨y, hy⟩ : ∃ y, thI pw x0 W i = y := ⟨_, rfl⟩
        rw [hy] at MR hlen hri EE
        rw [hy]
        obtain ⟨d, hd⟩ : ∃ d : Nat, y.2 = (d : Int) := ⟨y.2.toNat, by omega⟩
        have hgr : g < wr.heap.size := MR.out.lt
        rw [show y.2.toNat = d by omega] at EE
        have hS := makerSquare_any B g 1 y.1 d wr hB MR.out (by omega) (by omega) (by omega)
        have hsl : (sqN 1 y.1 d).1.length ≤ 1000 := by rw [sqN_len]; omega
        obtain ⟨z, hz⟩ : ∃ z, sqN 1 y.1 d = z := ⟨_, rfl⟩
        rw [hz] at hS hsl EE
        have HS := Lib.hid hS
        clear hlow hy hS hz
        go_wp2_with fail
        go_at_call 133
        refine HS.out.mono ?_
        rintro e w3 ⟨rfl, hm3, hb3, hk3⟩
        have M3 := Lib.hid hm3
        have Q3 := Lib.hid (Kp.blk hk3 QR.out)
        have B3 := Lib.hid (BEL.out.trans hb3)
        clear hm3 hb3 hk3
        go_wp2_with fail
        obtain ⟨A4, c4, hblk, hown⟩ := M3.out
        have hg3 : g < w3.heap.size := M3.out.lt
        have y0 : w3.cell? ⟨g, 0, none⟩ = some (.int .i64 1) := by rw [cell_of_row w3 g 0 _ _ (0, 0) hblk]; rfl
        have y1 : w3.cell? ⟨g, 1, none⟩ = some (.slice A4 z.1.length c4) := by rw [cell_of_row w3 g 1 _ _ (0, 0) hblk]; rfl
        have HOW := Lib.hid hown
        have FS := Lib.hid (show ∀ x, Below w3.heap.size w3 x → x.cell? ⟨g, 0, none⟩ = some (.int .i64 1) ∧ x.cell? ⟨g, 1, none⟩ = some (.slice A4 z.1.length c4) from fun x hx =>
          ⟨(hx.cell (p := ⟨g, 0, none⟩) hg3).trans y0, (hx.cell (p := ⟨g, 1, none⟩) hg3).trans y1⟩)
        have HC := Lib.hid (show Below w3.heap.size w3 w3.drew from (Below.refl _ _).drew)
        clear hblk hown y0 y1
        refine wp_region_T (fun x : World => Below w3.heap.size w3 x) [0, 1, 2, 3, 4, 5, 6, 7, 8, 10, 12, 13, 15] [3, 7] (.lp 0 (.lp 1 (.lp 2 (.lp 4 (.lp 5 (.lp 6 (.lp 8 (.ls 3 (.ls 7 (.hv 9 (.lp 10 (.hv 11 (.lp 12 (.lp 13 (.hv 14 (.lp 15 (.done))))))))))))))))) (by kernel_rfl) (by kernel_rfl) ?_
        (repeat (refine T_lp rfl (fun K hK => ?_); go_simp; refine hK _ ?_; clear hK K))
        refine T_ls1 (v := .int .i64 1) rfl rfl HC.out (fun x hx => (by obtain ⟨h0, h1⟩ := FS.out x hx; go_simp)) (fun K hK => ?_)
        (go_simp; refine hK _ ?_; clear hK K)
        refine T_ls1 (v := .slice A4 z.1.length c4) rfl rfl HC.out (fun x hx => (by obtain ⟨h0, h1⟩ := FS.out x hx; go_simp)) (fun K hK => ?_)
        (go_simp; refine hK _ ?_; clear hK K)
        generalize World.drew w3 = wd at HC ⊢
        have hbd := HC.out
        have hsd := hbd.size
        refine T_hvS rfl (fun K hK => ?_)
        go_simp
        refine hK _ _ (HC.out.alloc HC.out.size _) ?_
        clear hK K
        (repeat (refine T_lp rfl (fun K hK => ?_); go_simp; refine hK _ ?_; clear hK K))
        refine T_hv rfl (by kernel_rfl) (fun K hK => ?_)
        go_simp
        go_at_call 135
        generalize hw5 : World.alloc wd _ = w5
        obtain ⟨ho5, hb5⟩ := one_new hw5
        clear hw5
        have hb35 : Below w3.heap.size w3 w5 := hbd.trans (hb5.mono hsd)
        have RD := Lib.hid (show RdP w5 w5.heap.size A4 (some ⟨wd.heap.size, 0, none⟩) ⟨1, z.1, [z.2]⟩ from ⟨Rd.of_own (own_below HOW.out hb35), Rd.of_own ho5⟩)
        have q5 := (hb35.block w.heap.size (by have := (Array.getElem?_eq_some_iff.1 Q3.out).1; omega)).trans Q3.out
        have Q5 := Lib.hid q5
        have B5 := Lib.hid (B3.out.trans (hb35.mono (by omega)))
        clear ho5 hb5 hb35 q5 hbd
        refine (implTrim_any w5.heap.size A4 (some ⟨wd.heap.size, 0, none⟩) c4 1 ⟨1, z.1, [z.2]⟩ w5 (Nat.le_refl _) (by show z.1.length ≤ 2000000; omega) (by simp) RD.out).mono ?_
        rw [← EE.out]
        rintro e w6 ⟨R1, R2, v1, v2, rfl, ho6, hb6⟩
        have q6 := (hb6.block w.heap.size (by have := (Array.getElem?_eq_some_iff.1 Q5.out).1; omega)).trans Q5.out
        obtain ⟨t0, t1, t2, g0, g1, g2⟩ := cells3 q6
        have hs5 : w.heap.size ≤ w5.heap.size := by have := (Array.getElem?_eq_some_iff.1 Q5.out).1; omega
        have O6 := Lib.hid (show OwP w6 w.heap.size R1 R2 v1 v2 (trimR (thP pw _ W)) from OwP.base ho6 hs5)
        have Q6 := Lib.hid q6
        have B6 := Lib.hid (B5.out.trans (hb6.mono (show B ≤ w5.heap.size by omega)))
        clear ho6 hb6 q6
        (go_simp; refine hK _ _ ?_; clear hK K)
        (repeat (first | (refine T_lp rfl (fun K hK => ?_); go_simp; refine hK _ ?_; clear hK K) | (refine T_ls rfl rfl (fun K hK => ?_); go_simp; refine hK _ ?_; clear hK K)))
        (refine T_hv rfl (by kernel_rfl) (fun K hK => ?_); go_simp; refine hK _ _ ?_; clear hK K)
        (repeat (first | (refine T_lp rfl (fun K hK => ?_); go_simp; refine hK _ ?_; clear hK K) | (refine T_ls rfl rfl (fun K hK => ?_); go_simp; refine hK _ ?_; clear hK K)))
        refine T_done ?_
        go_wp2
        refine bodyPost_ret (v := .tuple #[.agg #[.int .i64 (trimR (thP pw _ W)).n, .slice R1 (trimR (thP pw _ W)).s.length v1, .slice R2 (trimR (thP pw _ W)).o.length v2], .bool (good (thP pw _ W))]) (by simp [results, Try.results128, go_sem, t0, t1, t2]) rfl ⟨R1, R2, v1, v2, rfl, ?_, ?_⟩
        · exact owP_of3 O6.out.1 O6.out.2 Q6.out (by decide) (by decide) rfl rfl _ _ _
        · exact ((B6.out.setCell (show B ≤ w.heap.size by omega) _).setCell (show B ≤ w.heap.size by omega) _).setCell (show B ≤ w.heap.size by omega) _
end Go.Proofs.Ytppahohakiidmaa
/- The plan by digits from the lowest one on: as data, and by the method of the program. -/
namespace Go.Proofs.Ytppahohakiidmaa
open Go.RowKit

def rSq (s : (List (Int × Int) × Int) × Int) : (List (Int × Int) × Int) × Int := ((s.1.1 ++ [stI s.2 s.2], s.1.2), 1 + (s.1.1.length : Int))
def rDg (n j : Nat) (s : (List (Int × Int) × Int) × Int) : (List (Int × Int) × Int) × Int := if bitB n j then (onS 1 s.1 s.2, s.2) else s
def rP (n : Nat) : Nat → (List (Int × Int) × Int) × Int
  | 0 => (([], -1), 0)
  | j + 1 => rDg n j (if 0 < j then rSq (rP n j) else rP n j)
def rQ (n j : Nat) : (List (Int × Int) × Int) × Int := if 0 < j then rSq (rP n j) else rP n j
theorem rP_succ (n j : Nat) : rP n (j + 1) = rDg n j (rQ n j) := rfl
theorem rDg_len (n j : Nat) (s : (List (Int × Int) × Int) × Int) : (rDg n j s).1.1.length ≤ s.1.1.length + 1 := by
  unfold rDg
  split
  · exact onS_len 1 s.1 s.2
  · omega
theorem rSq_len (s : (List (Int × Int) × Int) × Int) : (rSq s).1.1.length = s.1.1.length + 1 := by simp [rSq]
theorem rP_len (n j : Nat) : (rP n j).1.1.length ≤ 2 * j := by
  induction j with
  | zero => exact Nat.le_refl _
  | succ j ih =>
    show (rDg n j (if 0 < j then rSq (rP n j) else rP n j)).1.1.length ≤ _
    have h1 := rDg_len n j (if 0 < j then rSq (rP n j) else rP n j)
    have h2 := rSq_len (rP n j)
    split at h1 <;> split <;> omega
theorem rQ_len (n j : Nat) : (rQ n j).1.1.length ≤ 2 * j + 1 := by
  unfold rQ
  have h1 := rP_len n j
  have h2 := rSq_len (rP n j)
  split <;> omega
/-- A result that is there, or none, and a square. -/
def rV (s : (List (Int × Int) × Int) × Int) : Prop := vd s.1 ∧ 0 ≤ s.2
theorem rV_sq {s : (List (Int × Int) × Int) × Int} (h : rV s) : rV (rSq s) := ⟨h.1, by show (0 : Int) ≤ 1 + (s.1.1.length : Int); omega⟩
theorem rV_dg {n j : Nat} {s : (List (Int × Int) × Int) × Int} (h : rV s) : rV (rDg n j s) := by
  unfold rDg
  split
  · exact ⟨vd_on (by omega) h.2 _, h.2⟩
  · exact h
theorem rV_P (n j : Nat) : rV (rP n j) := by
  induction j with
  | zero => exact ⟨.inl rfl, Int.le_refl 0⟩
  | succ j ih =>
    refine rV_dg ?_
    split
    · exact rV_sq ih
    · exact ih
theorem rV_Q (n j : Nat) : rV (rQ n j) := by
  unfold rQ
  split
  · exact rV_sq (rV_P n j)
  · exact rV_P n j
def rgP (n : Nat) : Pl := ⟨1, (rP n (Lib.bitLen n)).1.1, [(rP n (Lib.bitLen n)).1.2]⟩
theorem rgP_len {n : Nat} (hn : n ≤ 1000000) : (rgP n).s.length ≤ 1000 ∧ (rgP n).o.length ≤ 1000 := by
  refine ⟨?_, by simp [rgP]⟩
  have h1 := rP_len n (Lib.bitLen n)
  have h2 := bl_bd hn
  show (rP n (Lib.bitLen n)).1.1.length ≤ 1000
  omega

set_option maxRecDepth 100000 in
set_option maxHeartbeats 2000000 in
theorem rightFor_any (n : Nat) (w : World) (hn1 : 1 ≤ n) (hn : n ≤ 1000000) :
    Calls Try.prog 144 #[.agg #[], .int .i64 (n : Int)] w fun e w' =>
      ∃ R1 R2 v1 v2, e = .returned (.tuple #[.agg #[.int .i64 (mkR (rgP n)).n, .slice R1 (mkR (rgP n)).s.length v1, .slice R2 (mkR (rgP n)).o.length v2], .bool (good (rgP n))]) ∧ OwP w' w.heap.size R1 R2 v1 v2 (mkR (rgP n)) ∧ Below w.heap.size w w' := by
  obtain ⟨L, hL⟩ : ∃ L, Lib.bitLen n = L := ⟨_, rfl⟩
  have hL20 : L ≤ 20 := by rw [← hL]; exact bl_bd hn
  have EL := Lib.hid (show Lib.bitLen ((n : Int)).toNat = L from hL)
  have EP := Lib.hid (show rgP n = ⟨1, (rP n L).1.1, [(rP n L).1.2]⟩ by unfold rgP; rw [hL])
  clear hL
  go_enter Try.func144, Try.ntmps144
  go_wp2_with fail
  go_at_call 70
  generalize hw1 : World.alloc (World.alloc w _) _ = w1
  obtain ⟨q0, xs, xb⟩ := me_box hw1
  clear hw1
  generalize hw2 : World.alloc w1 _ = w2
  obtain ⟨mk2, b2⟩ := mk_new (B := w1.heap.size) hw2
  rw [xs] at mk2 b2
  clear hw2
  have Q0 := Lib.hid q0
  have XB := Lib.hid xb
  have XS := Lib.hid xs
  have MK := Lib.hid mk2
  have B2 := Lib.hid b2
  clear q0 xs xb mk2 b2
  refine (bitsLen_any (n : Int) _ (by omega) (by omega)).mono ?_
  rintro e w' ⟨rfl, hww⟩
  subst w'
  rw [EL.out]
  go_wp2
  go_loopw [7, 8, 14] (fun sv vv iv wr => ∃ j : Nat, j ≤ L ∧ iv = .int .i64 j ∧ sv = .int .i64 (rP n j).2 ∧ vv = .int .i64 (rP n j).1.2 ∧ MkS wr (w.heap.size + 1 + 1) (w.heap.size + 1 + 1) 1 (rP n j).1.1 ∧ Below (w.heap.size + 1 + 1) w1 wr) (fun _ _ iv _ => L - (intOf iv).toNat)
  case atStart => exact ⟨0, by omega, rfl, rfl, rfl, MK.out, B2.out⟩
  case round =>
    obtain ⟨j, hj, rfl, rfl, rfl, hmk, hbel⟩ := hrel
    have MKR := Lib.hid hmk
    have BEL := Lib.hid hbel
    clear hmk hbel
    by_cases hlt : j < L
    case neg =>
      have e : j = L := by omega
      subst e
      have hxl := rP_len n j
      obtain ⟨x, hx⟩ : ∃ x, rP n j = x := ⟨_, rfl⟩
      rw [hx] at MKR EP hxl
      rw [hx]
      clear hx
      go_wp2_with fail
      go_at_call 147
      generalize hw4 : World.alloc wr _ = w4
      obtain ⟨ho4, hb4⟩ := one_new hw4
      clear hw4
      refine (makerPlan_any (w.heap.size + 1 + 1) (w.heap.size + 1 + 1) _ _ ⟨1, x.1.1, [x.1.2]⟩ w4 (Nat.le_refl _) (MKR.out.below hb4) (own_base ho4 (by have := BEL.out.size; have := XS.out; omega)) (by show x.1.1.length ≤ 1000; omega) (by simp)).mono ?_
      rintro e w5 ⟨R1, R2, v1, v2, rfl, ho5, hb5⟩
      rw [← EP.out]
      rw [← EP.out] at ho5
      have hb15 : Below (w.heap.size + 1 + 1) w1 w5 := BEL.out.trans ((hb4.mono (by have := BEL.out.size; have := XS.out; omega)).trans (hb5.mono (by have := hb4.size; have := BEL.out.size; have := XS.out; omega)))
      have q5 := (hb15.block (w.heap.size + 1) (by have := XS.out; omega)).trans Q0.out
      obtain ⟨t0, t1, t2, g0, g1, g2⟩ := cells3 q5
      have B5 := Lib.hid (XB.out.trans (hb15.mono (by have := XS.out; omega)))
      have O5 := Lib.hid ho5
      have Q5 := Lib.hid q5
      clear hb15 ho5 q5
      go_wp2
      refine bodyPost_ret (v := .tuple #[.agg #[.int .i64 (mkR (rgP n)).n, .slice R1 (mkR (rgP n)).s.length v1, .slice R2 (mkR (rgP n)).o.length v2], .bool (good (rgP n))]) (by simp [results, Try.results144, go_sem, t0, t1, t2]) rfl ⟨R1, R2, v1, v2, rfl, ?_, ?_⟩
      · refine owP_of3 (own_base O5.out.1 (by have := XS.out; omega)) (own_base O5.out.2 (by have := XS.out; omega)) Q5.out (by decide) (by decide) rfl rfl _ _ _
      · exact ((B5.out.setCell (by simp) _).setCell (by simp) _).setCell (by simp) _
    case pos =>
    have ij : (j : Int) < (L : Int) := by omega
    have hxl := rP_len n j
    have hql := rQ_len n j
    obtain ⟨y, hy⟩ : ∃ y, rQ n j = y := ⟨_, rfl⟩
    have EZ := Lib.hid (show rP n (j + 1) = rDg n j y by rw [rP_succ, hy])
    obtain ⟨x, hx⟩ : ∃ x, rP n j = x := ⟨_, rfl⟩
    have EY := Lib.hid (show y = if 0 < j then rSq x else x by rw [← hy, ← hx]; rfl)
    rw [hy] at hql
    rw [hx] at MKR hxl
    rw [hx]
    clear hx hy
    by_cases hj0 : 0 < j
    · have ij0 : (0 : Int) < (j : Int) := by omega
      have EY2 := Lib.hid (show y = ((x.1.1 ++ [stI x.2 x.2], x.1.2), 1 + (x.1.1.length : Int)) by rw [EY.out, if_pos hj0]; rfl)
      have hS := makerSquare_any (w.heap.size + 1 + 1) (w.heap.size + 1 + 1) 1 (x.1.1, x.2) 1 wr (Nat.le_refl _) MKR.out (by show x.1.1.length + 1 ≤ 1000; omega) (by omega) (by omega)
      have HS := Lib.hid hS
      clear hS
      cases hbit : bitB n j with
      | true =>
        have HB := Lib.hid hbit
        have ED := Lib.hid (show rP n (j + 1) = (onS 1 y.1 y.2, y.2) by rw [EZ.out]; unfold rDg; rw [if_pos hbit])
        have hl3 : y.1.1.length ≤ 1000 := by omega
        clear hbit
        go_wp2_with (first
          | (go_at_call 133; refine HS.out.mono ?_; rintro e w3 ⟨rfl, hm3, hb3, _⟩; have M3 := Lib.hid (show MkS w3 (w.heap.size + 1 + 1) (w.heap.size + 1 + 1) 1 y.1.1 by rw [EY2.out]; exact hm3); have V3 := Lib.hid (show 1 + (x.1.1.length : Int) = y.2 by rw [EY2.out]); have V4 := Lib.hid (show x.1.2 = y.1.2 by rw [EY2.out]); rw [show (sqN 1 (x.1.1, x.2) 1).2 = y.2 from V3.out, V4.out])
          | (go_at_call 145; refine (hasDigit_any n j _ (by omega)).mono ?_; rw [HB.out]; rintro e' w' ⟨rfl, hww⟩; subst w')
          | (go_at_call 146; refine (makerOnto_any (w.heap.size + 1 + 1) (w.heap.size + 1 + 1) 1 y.1 y.2 _ (Nat.le_refl _) M3.out hl3 (by omega) (by omega)).mono ?_; rintro e' w4 ⟨rfl, hm4, hb4, _⟩))
        go_roundw
        case rel => exact ⟨j + 1, by omega, by go_num, by rw [ED.out], by rw [ED.out], by rw [ED.out]; exact hm4, BEL.out.trans (hb3.trans hb4)⟩
        case measure => simp [intOf]; omega
      | false =>
        have HB := Lib.hid hbit
        have ED := Lib.hid (show rP n (j + 1) = y by rw [EZ.out]; unfold rDg; rw [if_neg (by rw [hbit]; decide)])
        clear hbit
        go_wp2_with (first
          | (go_at_call 133; refine HS.out.mono ?_; rintro e w3 ⟨rfl, hm3, hb3, _⟩; have M3 := Lib.hid (show MkS w3 (w.heap.size + 1 + 1) (w.heap.size + 1 + 1) 1 y.1.1 by rw [EY2.out]; exact hm3); have V3 := Lib.hid (show 1 + (x.1.1.length : Int) = y.2 by rw [EY2.out]); have V4 := Lib.hid (show x.1.2 = y.1.2 by rw [EY2.out]); rw [show (sqN 1 (x.1.1, x.2) 1).2 = y.2 from V3.out, V4.out])
          | (go_at_call 145; refine (hasDigit_any n j _ (by omega)).mono ?_; rw [HB.out]; rintro e' w' ⟨rfl, hww⟩; subst w'))
        go_roundw
        case rel => exact ⟨j + 1, by omega, by go_num, by rw [ED.out], by rw [ED.out], by rw [ED.out]; exact M3.out, BEL.out.trans hb3⟩
        case measure => simp [intOf]; omega
    · have ij0 : ¬ (0 : Int) < (j : Int) := by omega
      have EY2 : y = x := by rw [EY.out, if_neg hj0]
      clear EY
      subst EY2
      cases hbit : bitB n j with
      | true =>
        have HB := Lib.hid hbit
        have ED := Lib.hid (show rP n (j + 1) = (onS 1 y.1 y.2, y.2) by rw [EZ.out]; unfold rDg; rw [if_pos hbit])
        have hl3 : y.1.1.length ≤ 1000 := by omega
        clear hbit
        go_wp2_with (first
          | (go_at_call 145; refine (hasDigit_any n j _ (by omega)).mono ?_; rw [HB.out]; rintro e' w' ⟨rfl, hww⟩; subst w')
          | (go_at_call 146; refine (makerOnto_any (w.heap.size + 1 + 1) (w.heap.size + 1 + 1) 1 y.1 y.2 _ (Nat.le_refl _) MKR.out hl3 (by omega) (by omega)).mono ?_; rintro e' w4 ⟨rfl, hm4, hb4, _⟩))
        go_roundw
        case rel => exact ⟨j + 1, by omega, by go_num, by rw [ED.out], by rw [ED.out], by rw [ED.out]; exact hm4, BEL.out.trans hb4⟩
        case measure => simp [intOf]; omega
      | false =>
        have HB := Lib.hid hbit
        have ED := Lib.hid (show rP n (j + 1) = y by rw [EZ.out]; unfold rDg; rw [if_neg (by rw [hbit]; decide)])
        clear hbit
        go_wp2_with (go_at_call 145; refine (hasDigit_any n j _ (by omega)).mono ?_; rw [HB.out]; rintro e' w' ⟨rfl, hww⟩; subst w')
        go_roundw
        case rel => exact ⟨j + 1, by omega, by go_num, by rw [ED.out], by rw [ED.out], by rw [ED.out]; exact MKR.out, BEL.out⟩
        case measure => simp [intOf]; omega
end Go.Proofs.Ytppahohakiidmaa
/- The plan by digits from the lowest one on, by the model. -/
namespace Go.Proofs.Ytppahohakiidmaa
open Go.RowKit

theorem lenD_bits : ∀ f n, lenD 2 f n = Lib.bitLenAux f n := by
  intro f
  induction f with
  | zero => intro n; rfl
  | succ f ih =>
    intro n
    show (if n = 0 then 0 else lenD 2 f (n / 2) + 1) = (if n = 0 then 0 else 1 + Lib.bitLenAux f (n / 2))
    rw [ih]
    split <;> omega
theorem lenD_bl {n : Nat} (hn : n ≤ 1000000) : lenD 2 20 n = Lib.bitLen n := by
  rw [lenD_bits]
  exact (Lib.bitLenAux_fuel 20 n (by omega) 64 (by omega)).symm
theorem dgs_at {n j : Nat} (hn : n ≤ 1000000) (hj : j < Lib.bitLen n) : ∃ h : j < (dgs 2 n).length, (dgs 2 n)[j] = if bitB n j then 1 else 0 := by
  have hl : (dgs 2 n).length = Lib.bitLen n := by unfold dgs; rw [digL_len, lenD_bl hn]
  refine ⟨by omega, ?_⟩
  have e : (dgs 2 n)[j]'(by omega) = ((n / 2 ^ j % 2 : Nat) : Int) := by simp [dgs, digL]
  rw [e]
  unfold bitB
  rcases Nat.mod_two_eq_zero_or_one (n / 2 ^ j) with h | h <;> rw [h] <;> rfl

end Go.Proofs.Ytppahohakiidmaa
/- The plan by binary digits, as data: it is good, all of it is used, and the windows of one digit make it. -/
namespace Go.Proofs.Ytppahohakiidmaa
open Go.RowKit

def bnX (n L : Nat) : Nat → List (Int × Int) × Int
  | 0 => ([], 0)
  | j + 1 => if bitB n (L - 2 - j) then muS 1 (muS 1 (bnX n L j) (bnX n L j).2) 0 else muS 1 (bnX n L j) (bnX n L j).2
def bnP (n : Nat) : Pl := ⟨1, (bnX n (Lib.bitLen n) (Lib.bitLen n - 1)).1, [(bnX n (Lib.bitLen n) (Lib.bitLen n - 1)).2]⟩
/-- Each step uses the value just before it, with itself or with the input. -/
def StarL (x : List (Int × Int) × Int) : Prop := x.2 = x.1.length ∧ ∀ i (h : i < x.1.length), (x.1[i]).2 = i ∧ ((x.1[i]).1 = i ∨ (x.1[i]).1 = 0)
theorem star_mu {x : List (Int × Int) × Int} {b : Int} (h : StarL x) (hb : b = x.2 ∨ b = 0) : StarL (muS 1 x b) := by
  obtain ⟨h1, h2⟩ := h
  refine ⟨?_, fun i hi => ?_⟩
  · show (1 : Int) + (x.1.length : Int) = ((x.1 ++ [stI x.2 b]).length : Int)
    rw [List.length_append, List.length_singleton]
    omega
  · have hi' : i < x.1.length + 1 := by
      have : (muS 1 x b).1.length = x.1.length + 1 := by simp [muS]
      omega
    show ((x.1 ++ [stI x.2 b])[i]'(by simpa using hi')).2 = i ∧ (((x.1 ++ [stI x.2 b])[i]'(by simpa using hi')).1 = i ∨ ((x.1 ++ [stI x.2 b])[i]'(by simpa using hi')).1 = 0)
    rcases Nat.lt_or_ge i x.1.length with hl | hl
    · rw [List.getElem_append_left hl]
      exact h2 i hl
    · have e : i = x.1.length := by omega
      subst e
      rw [List.getElem_append_right (Nat.le_refl _)]
      simp only [Nat.sub_self, List.getElem_singleton]
      rw [stI_min, h1]
      rcases hb with hb | hb
      · rw [hb, h1]; simp
      · rw [hb]
        show max (x.1.length : Int) 0 = _ ∧ (min (x.1.length : Int) 0 = _ ∨ min (x.1.length : Int) 0 = 0)
        omega
theorem bnX_star (n L j : Nat) : StarL (bnX n L j) := by
  induction j with
  | zero => exact ⟨rfl, fun i h => absurd h (by simp [bnX])⟩
  | succ j ih =>
    unfold bnX
    split
    · exact star_mu (star_mu ih (.inl rfl)) (.inr rfl)
    · exact star_mu ih (.inl rfl)
theorem bnX_len (n L j : Nat) : (bnX n L j).1.length ≤ 2 * j := by
  induction j with
  | zero => exact Nat.le_refl _
  | succ j ih =>
    unfold bnX
    split
    · simp [muS]; omega
    · simp [muS]; omega

/-- The exponents, the last one m. -/
def ExpL (x : List (Int × Int) × Int) (m : Int) : Prop :=
  ∃ E : List Int, exps 1 x.1 = E.map (fun e => [e]) ∧ E.length = x.1.length + 1 ∧ E.getD 0 0 = 1 ∧ E.getD x.1.length 0 = m ∧ ∀ e ∈ E, 0 ≤ e ∧ e ≤ 1000000
theorem exp_one : ExpL ([], 0) 1 := ⟨[1], rfl, rfl, rfl, rfl, fun e he => by simp at he; omega⟩
theorem getD_row (E : List Int) {a : Nat} (ha : a < E.length) : (E.map fun e => [e]).getD a [] = [E.getD a 0] := by simp [ha]
theorem exp_mu {x : List (Int × Int) × Int} {m : Int} {b : Int} (h : StarL x) (hE : ExpL x m) {a : Int} (hm : 0 ≤ m ∧ 0 ≤ a ∧ m + a ≤ 1000000) (hb : b = x.2 ∧ a = m ∨ b = 0 ∧ a = 1) : ExpL (muS 1 x b) (m + a) := by
  obtain ⟨E, e1, e2, e3, e4, e5⟩ := hE
  have hl : (muS 1 x b).1.length = x.1.length + 1 := by simp [muS]
  have hx : x.2 = x.1.length := h.1
  refine ⟨E ++ [m + a], ?_, by simp [hl, e2], ?_, ?_, ?_⟩
  · show exps 1 (x.1 ++ [stI x.2 b]) = _
    have hf : exps 1 (x.1 ++ [stI x.2 b]) = expStep (exps 1 x.1) (stI x.2 b) := by simp [exps]
    rw [hf, e1]
    unfold expStep
    rw [List.map_append, stI_min]
    congr 1
    have hs : sumL [E.getD (min x.2 b).toNat 0] [E.getD (max x.2 b).toNat 0] = [m + a] := by
      show [leastI (E.getD (min x.2 b).toNat 0 + E.getD (max x.2 b).toNat 0) 1000001] = _
      have hv : E.getD (min x.2 b).toNat 0 + E.getD (max x.2 b).toNat 0 = m + a := by
        rcases hb with ⟨rfl, rfl⟩ | ⟨rfl, rfl⟩
        · rw [hx, show (min (x.1.length : Int) x.1.length).toNat = x.1.length by omega, show (max (x.1.length : Int) x.1.length).toNat = x.1.length by omega, e4]
        · rw [hx, show (min (x.1.length : Int) 0).toNat = 0 by omega, show (max (x.1.length : Int) 0).toNat = x.1.length by omega, e3, e4]
          omega
      rw [hv]
      unfold leastI
      rw [if_pos (by omega)]
    show [sumL ((E.map fun e => [e]).getD (min x.2 b).toNat []) ((E.map fun e => [e]).getD (max x.2 b).toNat [])] = _
    rw [getD_row E (by rcases hb with ⟨rfl, rfl⟩ | ⟨rfl, rfl⟩ <;> omega), getD_row E (by rcases hb with ⟨rfl, rfl⟩ | ⟨rfl, rfl⟩ <;> omega), hs]
    rfl
  · rw [List.getD_eq_getElem?_getD, List.getElem?_append_left (by omega), ← List.getD_eq_getElem?_getD, e3]
  · rw [hl, List.getD_eq_getElem?_getD, List.getElem?_append_right (by omega), e2]
    simp
  · intro e he
    rcases List.mem_append.1 he with h | h
    · exact e5 e h
    · simp at h; omega

theorem top_bit {n : Nat} (hn1 : 1 ≤ n) (hn : n ≤ 1000000) : 1 ≤ Lib.bitLen n ∧ n / 2 ^ (Lib.bitLen n - 1) = 1 := by
  have h1 : 1 ≤ Lib.bitLen n := bl_more (n := n) (b := 0) hn (by simp; omega)
  refine ⟨h1, ?_⟩
  have h2 : 2 ^ (Lib.bitLen n - 1) ≤ n := by
    rcases Nat.lt_or_ge n (2 ^ (Lib.bitLen n - 1)) with h | h
    · have := Lib.bitLen_le n (Lib.bitLen n - 1) (by have := bl_bd hn; omega) h
      omega
    · exact h
  have h3 : n < 2 ^ (Lib.bitLen n - 1 + 1) := by
    rcases Nat.lt_or_ge n (2 ^ (Lib.bitLen n)) with h | h
    · rwa [show Lib.bitLen n - 1 + 1 = Lib.bitLen n by omega]
    · have := bl_more hn h
      omega
  rw [Nat.pow_succ] at h3
  have h4 := Nat.div_lt_of_lt_mul h3
  have h5 := Nat.div_pos h2 (Nat.two_pow_pos _)
  omega
theorem half_bit (n q : Nat) : n / 2 ^ q = 2 * (n / 2 ^ (q + 1)) + (if bitB n q then 1 else 0) := by
  have e : n / 2 ^ (q + 1) = n / 2 ^ q / 2 := by rw [Nat.pow_succ, Nat.div_div_eq_div_mul]
  rw [e]
  unfold bitB
  rcases Nat.mod_two_eq_zero_or_one (n / 2 ^ q) with h | h <;> rw [h] <;> simp <;> omega
theorem bnX_exp {n : Nat} (hn1 : 1 ≤ n) (hn : n ≤ 1000000) : ∀ j, j + 1 ≤ Lib.bitLen n → ExpL (bnX n (Lib.bitLen n) j) ((n / 2 ^ (Lib.bitLen n - 1 - j) : Nat) : Int) := by
  obtain ⟨h1, h2⟩ := top_bit hn1 hn
  intro j
  induction j with
  | zero => intro _; rw [Nat.sub_zero, h2]; exact exp_one
  | succ j ih =>
    intro hj
    have ih := ih (by omega)
    have hb := half_bit n (Lib.bitLen n - 2 - j)
    rw [show Lib.bitLen n - 2 - j + 1 = Lib.bitLen n - 1 - j by omega] at hb
    have hle : n / 2 ^ (Lib.bitLen n - 2 - j) ≤ 1000000 := Nat.le_trans (Nat.div_le_self _ _) hn
    rw [show Lib.bitLen n - 1 - (j + 1) = Lib.bitLen n - 2 - j by omega, hb]
    rw [hb] at hle
    obtain ⟨M, hM⟩ : ∃ M, n / 2 ^ (Lib.bitLen n - 1 - j) = M := ⟨_, rfl⟩
    rw [hM] at ih hle
    rw [hM]
    have hs := bnX_star n (Lib.bitLen n) j
    unfold bnX
    cases hbit : bitB n (Lib.bitLen n - 2 - j) with
    | true =>
      rw [hbit] at hle
      rw [if_pos rfl] at hle ⊢
      have e1 := exp_mu (b := (bnX n (Lib.bitLen n) j).2) hs ih (a := (M : Int)) (by omega) (.inl ⟨rfl, rfl⟩)
      have e2 := exp_mu (b := 0) (star_mu hs (.inl rfl)) e1 (a := 1) (by omega) (.inr ⟨rfl, rfl⟩)
      rw [show ((2 * M + (if true = true then 1 else 0) : Nat) : Int) = (M : Int) + (M : Int) + 1 by simp; omega]
      exact e2
    | false =>
      rw [hbit] at hle
      rw [if_neg (by decide)] at hle ⊢
      have e1 := exp_mu (b := (bnX n (Lib.bitLen n) j).2) hs ih (a := (M : Int)) (by omega) (.inl ⟨rfl, rfl⟩)
      rw [show ((2 * M + (if false = true then 1 else 0) : Nat) : Int) = (M : Int) + (M : Int) by simp; omega]
      exact e1

theorem star_okS {x : List (Int × Int) × Int} (h : StarL x) : OkS 1 x.1 := by
  intro i hi
  obtain ⟨h1, h2⟩ := h.2 i hi
  omega
theorem okPre_ofS {n : Nat} {s : List (Int × Int)} (h : OkS n s) : ∀ k, k ≤ s.length → okPre n s k = true := by
  intro k
  induction k with
  | zero => intro _; rfl
  | succ k ih =>
    intro hk
    rw [okPre_succ _ _ _ (by omega), ih (by omega)]
    obtain ⟨h1, h2, h3⟩ := h k (by omega)
    unfold stepOk inB
    simp only [Bool.true_and, Bool.and_eq_true, decide_eq_true_eq]
    omega
theorem star_good {x : List (Int × Int) × Int} {m : Int} (h : StarL x) (hE : ExpL x m) (hl : x.1.length ≤ 40) : good ⟨1, x.1, [x.2]⟩ = true := by
  have h1 : okPre 1 x.1 x.1.length = true := okPre_ofS (n := 1) (star_okS h) _ (Nat.le_refl _)
  obtain ⟨E, e1, _, _, _, e5⟩ := hE
  have h2 : expsB (exps 1 x.1) = true := by
    rw [e1]
    unfold expsB
    rw [List.all_eq_true]
    intro r hr
    obtain ⟨e, he, rfl⟩ := List.mem_map.1 hr
    have := e5 e he
    simp [allB, inB]
    omega
  have h3 : allB [x.2] 0 (1 + (x.1.length : Int) - 1) = true := by
    simp [allB, inB, h.1]
    omega
  unfold good
  simp only [show ((1 : Int)).toNat = 1 from rfl]
  rw [h1, h2, h3]
  simp [inB, hl]
theorem star_need {x : List (Int × Int) × Int} (h : StarL x) : ∀ j, j < x.1.length → hasI (needI 1 x.1 [x.2] j) (1 + ((x.1.length - 1 - j : Nat) : Int)) = true := by
  intro j
  induction j with
  | zero =>
    intro hj
    unfold hasI needI
    rw [h.1]
    simp
    omega
  | succ j ih =>
    intro hj
    have h1 := ih (by omega)
    rw [need_hit (i := x.1.length - 1 - j) (by omega) rfl (by exact_mod_cast h1), hasI_two]
    have h2 := (h.2 (x.1.length - 1 - j) (by omega)).1
    rw [h2]
    have e : (1 + ((x.1.length - 1 - (j + 1) : Nat) : Int)) = ((x.1.length - 1 - j : Nat) : Int) := by omega
    rw [e]
    simp
theorem star_usd {x : List (Int × Int) × Int} (h : StarL x) : usd 1 x.1 [x.2] = (List.range x.1.length).map fun i : Nat => (i : Int) := by
  unfold usd usT
  rw [Nat.sub_self, List.range_eq_range']
  congr 1
  rw [List.filter_eq_self]
  intro i hi
  rw [List.mem_range'_1] at hi
  have h1 := star_need h (x.1.length - 1 - i) (by omega)
  rw [show x.1.length - 1 - (x.1.length - 1 - i) = i by omega] at h1
  exact fin_of_has (j := x.1.length - 1 - i) (by omega) h1 (by omega)
theorem plc_range {m k : Nat} (hk : k < m) : plc ((List.range m).map fun i : Nat => (i : Int)) (k : Int) 0 = k := by
  refine plc_hit (k := k) (by simpa using hk) ?_ (by simp)
  unfold hasI
  simp only [List.contains_eq_mem, decide_eq_false_iff_not]
  intro hm
  obtain ⟨i, hi, e⟩ := List.mem_iff_getElem.1 hm
  simp at hi e
  omega
theorem numI_range {m : Nat} {v : Int} (_h0 : 0 ≤ v) (hv : v < 1 + m) : numI 1 ((List.range m).map fun i : Nat => (i : Int)) v = v := by
  unfold numI
  split
  · rfl
  · obtain ⟨k, hk⟩ : ∃ k : Nat, v - 1 = (k : Int) := ⟨(v - 1).toNat, by omega⟩
    rw [show v - ((1 : Nat) : Int) = (k : Int) by omega, plc_range (by omega)]
    omega
theorem star_trim {x : List (Int × Int) × Int} {m : Int} (h : StarL x) (hE : ExpL x m) (hl : x.1.length ≤ 40) : trimR ⟨1, x.1, [x.2]⟩ = ⟨1, x.1, [x.2]⟩ := by
  have hg := star_good h hE hl
  rw [trimR_good (N := 1) hg rfl]
  simp only [star_usd h]
  have hS : keepS ⟨1, x.1, [x.2]⟩ 1 ((List.range x.1.length).map fun i : Nat => (i : Int)) ((List.range x.1.length).map fun i : Nat => (i : Int)).length = x.1 := by
    unfold keepS
    rw [List.take_of_length_le (Nat.le_refl _)]
    apply List.ext_getElem
    · simp
    · intro i h1 h2
      obtain ⟨a1, a2⟩ := h.2 i h2
      simp only [List.getElem_map, List.getElem_range, Int.toNat_natCast]
      have e : x.1.getD i (0, 0) = x.1[i] := by simp [h2]
      rw [e, numI_range (by omega) (by omega), numI_range (by omega) (by omega), stI_min]
      have : min (x.1[i]).1 (x.1[i]).2 = (x.1[i]).1 := by omega
      have : max (x.1[i]).1 (x.1[i]).2 = (x.1[i]).2 := by omega
      rw [‹min _ _ = _›, ‹max _ _ = _›]
  have hO : keepO ⟨1, x.1, [x.2]⟩ 1 ((List.range x.1.length).map fun i : Nat => (i : Int)) 1 = [x.2] := by
    unfold keepO
    show [numI 1 _ x.2] = _
    rw [numI_range (by have := h.1; omega) (by have := h.1; omega)]
  rw [hS]
  show (⟨1, x.1, keepO ⟨1, x.1, [x.2]⟩ 1 _ 1⟩ : Pl) = _
  rw [hO]
theorem bnP_good {n : Nat} (hn1 : 1 ≤ n) (hn : n ≤ 1000000) : good (bnP n) = true ∧ trimR (bnP n) = bnP n ∧ (bnP n).s.length ≤ 38 := by
  obtain ⟨h1, h2⟩ := top_bit hn1 hn
  have hs := bnX_star n (Lib.bitLen n) (Lib.bitLen n - 1)
  have he := bnX_exp hn1 hn (Lib.bitLen n - 1) (by omega)
  have hl := bnX_len n (Lib.bitLen n) (Lib.bitLen n - 1)
  have hb := bl_bd hn
  exact ⟨star_good hs he (by omega), star_trim hs he (by omega), by show (bnX _ _ _).1.length ≤ 38; omega⟩
end Go.Proofs.Ytppahohakiidmaa
/- Windows of one digit make the plan by binary digits; the method of the program. -/
namespace Go.Proofs.Ytppahohakiidmaa
open Go.RowKit

def wk (n k : Nat) : List (Int × Int) := wnF 1 (bwZ (dgs 2 n) k)
theorem dgs2_len {n : Nat} (hn : n ≤ 1000000) : (dgs 2 n).length = Lib.bitLen n := by unfold dgs; rw [digL_len, lenD_bl hn]
theorem wk_succ {n k : Nat} (hn : n ≤ 1000000) (hk : k < Lib.bitLen n) : wk n (k + 1) = if bitB n (Lib.bitLen n - 1 - k) then wk n k ++ [(((Lib.bitLen n - 1 - k : Nat) : Int), 1)] else wk n k := by
  have hl := dgs2_len hn
  have hb := bl_bd hn
  obtain ⟨h1, h2⟩ := dgs_at (n := n) (j := Lib.bitLen n - 1 - k) hn (by omega)
  unfold wk
  rw [show bwZ (dgs 2 n) (k + 1) = bwZ (dgs 2 n) k ++ [((dgs 2 n).length - 1 - k, (dgs 2 n)[(dgs 2 n).length - 1 - k]?.getD 0)] from bwd_succ _ _ _, wnF_snoc, hl]
  rw [List.getElem?_eq_getElem h1, h2]
  unfold wnS
  cases hbit : bitB n (Lib.bitLen n - 1 - k) with
  | true =>
    simp only [if_true, Option.getD_some]
    rw [if_neg (by decide)]
    have e : wrap64 (((Lib.bitLen n - 1 - k : Nat) : Int) * 1) = ((Lib.bitLen n - 1 - k : Nat) : Int) := by
      rw [Int.mul_one]
      unfold wrap64
      omega
    rw [e]
  | false => simp

structure WkOk (n L k : Nat) (W : List (Int × Int)) : Prop where
  pos : 1 ≤ W.length
  few : W.length ≤ k
  rng : ∀ i (h : i < W.length), ((L - k : Nat) : Int) ≤ (W[i]).1 ∧ (W[i]).1 ≤ ((L - 1 : Nat) : Int) ∧ (W[i]).2 = 1
  dec : ∀ i (h : i + 1 < W.length), (W[i + 1]).1 ≤ (W[i]'(by omega)).1
  low : ((L - k : Nat) : Int) ≤ (thI [0, 0] [] W (W.length - 1)).2
  plan : bnX n L (k - 1) = sqN 1 (thI [0, 0] [] W (W.length - 1)).1 ((thI [0, 0] [] W (W.length - 1)).2 - ((L - k : Nat) : Int)).toNat
theorem thI_app (pw : List Int) (x0 : List (Int × Int)) {W : List (Int × Int)} (h : 1 ≤ W.length) (w : Int × Int) : thI pw x0 (W ++ [w]) (W.length - 1) = thI pw x0 W (W.length - 1) := by
  unfold thI
  cases W with
  | nil => simp at h
  | cons a W => simp
theorem thI_snoc (pw : List Int) (x0 : List (Int × Int)) {W : List (Int × Int)} (h : 1 ≤ W.length) (w : Int × Int) : thI pw x0 (W ++ [w]) W.length = thF pw (thI pw x0 W (W.length - 1)) w := by
  obtain ⟨q, hq⟩ : ∃ q, W.length = q + 1 := ⟨W.length - 1, by omega⟩
  have h1 := thI_succ pw x0 (W := W ++ [w]) (i := q) (by simp; omega)
  have h2 : (W ++ [w])[q + 1]'(by simp; omega) = w := by
    rw [List.getElem_append_right (by omega)]
    simp [hq]
  rw [h2] at h1
  have h3 := thI_app pw x0 h w
  rw [hq, Nat.add_sub_cancel] at h3
  rw [hq, Nat.add_sub_cancel, h1, h3]
theorem bnX_step (n L j : Nat) : bnX n L (j + 1) = if bitB n (L - 2 - j) then muS 1 (sqN 1 (bnX n L j) 1) 0 else sqN 1 (bnX n L j) 1 := rfl
theorem sqN_add (x : List (Int × Int) × Int) (k : Nat) : sqN 1 (sqN 1 x k) 1 = sqN 1 x (k + 1) := rfl
theorem wk_ok {n : Nat} (hn1 : 1 ≤ n) (hn : n ≤ 1000000) : ∀ k, 1 ≤ k → k ≤ Lib.bitLen n → WkOk n (Lib.bitLen n) k (wk n k) := by
  obtain ⟨h1, h2⟩ := top_bit hn1 hn
  intro k
  induction k with
  | zero => intro h; omega
  | succ k ih =>
    intro _ hk
    rcases Nat.eq_zero_or_pos k with rfl | hk0
    · have e : wk n 1 = [(((Lib.bitLen n - 1 : Nat) : Int), 1)] := by
        rw [wk_succ hn (by omega)]
        have hbit : bitB n (Lib.bitLen n - 1 - 0) = true := by
          unfold bitB
          rw [Nat.sub_zero, h2]
          rfl
        rw [hbit, if_pos rfl, Nat.sub_zero]
        rfl
      rw [show 0 + 1 = 1 from rfl, e]
      refine ⟨Nat.le_refl _, Nat.le_refl _, fun i h => ?_, fun i h => absurd h (by simp), ?_, ?_⟩
      · have : i = 0 := by simpa using h
        subst this
        exact ⟨Int.le_refl _, Int.le_refl _, rfl⟩
      · show ((Lib.bitLen n - 1 : Nat) : Int) ≤ ((Lib.bitLen n - 1 : Nat) : Int)
        omega
      · show ([], 0) = sqN 1 ([], 0) (((Lib.bitLen n - 1 : Nat) : Int) - ((Lib.bitLen n - 1 : Nat) : Int)).toNat
        rw [show (((Lib.bitLen n - 1 : Nat) : Int) - ((Lib.bitLen n - 1 : Nat) : Int)).toNat = 0 by omega]
        rfl
    · obtain ⟨p1, p2, p3, p4, p5, p6⟩ := ih hk0 (by omega)
      have hw := wk_succ (n := n) (k := k) hn (by omega)
      have hstep := bnX_step n (Lib.bitLen n) (k - 1)
      rw [show k - 1 + 1 = k by omega, show Lib.bitLen n - 2 - (k - 1) = Lib.bitLen n - 1 - k by omega, p6] at hstep
      obtain ⟨s, hs⟩ : ∃ s, thI [0, 0] [] (wk n k) ((wk n k).length - 1) = s := ⟨_, rfl⟩
      rw [hs] at p5 hstep
      have hd : (s.2 - ((Lib.bitLen n - k : Nat) : Int)).toNat + 1 = (s.2 - ((Lib.bitLen n - (k + 1) : Nat) : Int)).toNat := by omega
      rw [sqN_add, hd] at hstep
      cases hbit : bitB n (Lib.bitLen n - 1 - k) with
      | true =>
        rw [hbit, if_pos rfl] at hw hstep
        rw [hw]
        have hsn := thI_snoc [0, 0] [] p1 (((Lib.bitLen n - 1 - k : Nat) : Int), 1)
        rw [hs] at hsn
        have hlen : (wk n k ++ [(((Lib.bitLen n - 1 - k : Nat) : Int), (1 : Int))]).length = (wk n k).length + 1 := by simp
        refine ⟨by omega, by omega, fun i h => ?_, fun i h => ?_, ?_, ?_⟩
        · rcases Nat.lt_or_ge i (wk n k).length with hl | hl
          · rw [List.getElem_append_left hl]
            have := p3 i hl
            exact ⟨by omega, this.2.1, this.2.2⟩
          · have e : i = (wk n k).length := by omega
            subst e
            rw [List.getElem_append_right (Nat.le_refl _)]
            simp only [Nat.sub_self, List.getElem_singleton]
            exact ⟨by omega, by omega, trivial⟩
        · rcases Nat.lt_or_ge (i + 1) (wk n k).length with hl | hl
          · rw [List.getElem_append_left hl, List.getElem_append_left (by omega)]
            exact p4 i hl
          · have e : i + 1 = (wk n k).length := by omega
            rw [List.getElem_append_right (by omega), List.getElem_append_left (by omega)]
            simp only [show i + 1 - (wk n k).length = 0 by omega, List.getElem_singleton]
            have := (p3 i (by omega)).1
            omega
        · rw [hlen, Nat.add_sub_cancel, hsn]
          show ((Lib.bitLen n - (k + 1) : Nat) : Int) ≤ ((Lib.bitLen n - 1 - k : Nat) : Int)
          omega
        · rw [hlen, Nat.add_sub_cancel, Nat.add_sub_cancel, hsn, hstep]
          show muS 1 (sqN 1 s.1 (s.2 - ((Lib.bitLen n - (k + 1) : Nat) : Int)).toNat) 0 = sqN 1 (muS 1 (sqN 1 s.1 (s.2 - ((Lib.bitLen n - 1 - k : Nat) : Int)).toNat) 0) (((Lib.bitLen n - 1 - k : Nat) : Int) - ((Lib.bitLen n - (k + 1) : Nat) : Int)).toNat
          rw [show (((Lib.bitLen n - 1 - k : Nat) : Int) - ((Lib.bitLen n - (k + 1) : Nat) : Int)).toNat = 0 by omega, show Lib.bitLen n - 1 - k = Lib.bitLen n - (k + 1) by omega]
          rfl
      | false =>
        rw [hbit, if_neg (by decide)] at hw hstep
        rw [hw]
        refine ⟨p1, by omega, fun i h => ?_, p4, ?_, ?_⟩
        · have := p3 i h
          exact ⟨by omega, this.2.1, this.2.2⟩
        · rw [hs]; omega
        · rw [hs, Nat.add_sub_cancel]; exact hstep
theorem wins_wk {n : Nat} (hn : n ≤ 1000000) : wins 1 2 n = wk n (Lib.bitLen n) := by unfold wins wk; rw [dgs2_len hn]
theorem wins_ok {n : Nat} (hn1 : 1 ≤ n) (hn : n ≤ 1000000) : WinOk [(0 : Int), 0].length (wins 1 2 n) ∧ thP [0, 0] [] (wins 1 2 n) = bnP n ∧ grW (wins 1 2 n) (wins 1 2 n).length = 1 := by
  obtain ⟨h1, _⟩ := top_bit hn1 hn
  have hb := bl_bd hn
  have h := wk_ok hn1 hn (Lib.bitLen n) h1 (Nat.le_refl _)
  rw [wins_wk hn]
  refine ⟨⟨h.pos, by have := h.few; omega, fun i hi => ?_, h.dec⟩, ?_, ?_⟩
  · obtain ⟨a, b, c⟩ := h.rng i hi
    rw [c]
    exact ⟨by omega, by omega, by decide, by decide⟩
  · have hp := h.plan
    rw [Nat.sub_self] at hp
    unfold thP thE bnP
    rw [hp]
    simp
  · have hall : ∀ k, 1 ≤ k → k ≤ (wk n (Lib.bitLen n)).length → grW (wk n (Lib.bitLen n)) k = 1 := by
      intro k
      induction k with
      | zero => intro h; omega
      | succ k ih =>
        intro _ hk
        rw [grW_succ _ (by omega), (h.rng k (by omega)).2.2]
        rcases Nat.eq_zero_or_pos k with rfl | hk0
        · rfl
        · rw [ih hk0 (by omega)]; rfl
    exact hall _ h.pos (Nat.le_refl _)
end Go.Proofs.Ytppahohakiidmaa
/- The method of one digit, by the program. -/
namespace Go.Proofs.Ytppahohakiidmaa
open Go.RowKit

set_option maxRecDepth 100000 in
set_option maxHeartbeats 2000000 in
theorem binFor_any (n : Nat) (w : World) (hn1 : 1 ≤ n) (hn : n ≤ 1000000) :
    Calls Try.prog 126 #[.agg #[.int .i64 1], .int .i64 (n : Int)] w fun e w' =>
      ∃ R1 R2 v1 v2, e = .returned (.tuple #[.agg #[.int .i64 (mkR (bnP n)).n, .slice R1 (mkR (bnP n)).s.length v1, .slice R2 (mkR (bnP n)).o.length v2], .bool (good (bnP n))]) ∧ OwP w' w.heap.size R1 R2 v1 v2 (mkR (bnP n)) ∧ Below w.heap.size w w' := by
  obtain ⟨hg, ht, _⟩ := bnP_good hn1 hn
  obtain ⟨hW, hP, hG⟩ := wins_ok hn1 hn
  have hWA := fun W => windows1_any n W hn1 hn
  obtain ⟨W, hWW⟩ : ∃ W, wins 1 2 n = W := ⟨_, rfl⟩
  rw [hWW] at hW hP hG hWA
  have hlW := hW.few
  have EM := Lib.hid (mkR_true hg)
  have EG := Lib.hid hg
  have ET := Lib.hid ht
  have EP := Lib.hid hP
  have EGR := Lib.hid hG
  have HW := Lib.hid hW
  have HWA := Lib.hid hWA
  rw [EM.out]
  clear hg ht hW hP hG hWA hWW
  go_enter Try.func126, Try.ntmps126
  go_wp2_with fail
  go_at_call 127
  generalize hw1 : World.alloc (World.alloc w _) _ = w1
  obtain ⟨q0, xs, xb⟩ := me_box hw1
  clear hw1
  generalize hw2 : World.alloc w1 _ = w2
  obtain ⟨mk2, b2⟩ := mk_new (B := w1.heap.size) hw2
  rw [xs] at mk2 b2
  clear hw2
  have Q0 := Lib.hid q0
  have XB := Lib.hid xb
  have XS := Lib.hid xs
  have MK := Lib.hid mk2
  have B2 := Lib.hid b2
  have hs2 := b2.size
  clear q0 xs xb mk2 b2
  refine (HWA.out w2).mono ?_
  rintro e w3 ⟨A, c, rfl, ho3, hb3⟩
  have hs3 := hb3.size
  have M3 := Lib.hid (MK.out.below hb3)
  have B3 := Lib.hid (B2.out.trans (hb3.mono (show w.heap.size + 1 + 1 ≤ w2.heap.size by have := XS.out; omega)))
  have O3 := Lib.hid ho3
  clear ho3 hb3
  go_wp2_with fail
  go_at_call 130
  refine (greatestOf_any w3.heap.size A c W w3 (Nat.le_refl _) (by omega) (Rd.of_own O3.out)).mono ?_
  rw [EGR.out]
  rintro e w4 ⟨rfl, hb4⟩
  have hs4 := hb4.size
  have M4 := Lib.hid (M3.out.below hb4)
  have B4 := Lib.hid (B3.out.trans (hb4.mono (show w.heap.size + 1 + 1 ≤ w3.heap.size by have := XS.out; omega)))
  have O4 := Lib.hid (O3.out.below hb4)
  clear hb4
  go_wp2_with fail
  go_at_call 129
  refine (allPowers1_any _ w4).mono ?_
  rintro e w5 ⟨AP, cp, rfl, hop, hb5⟩
  have M5 := Lib.hid (M4.out.below hb5)
  have B5 := Lib.hid (B4.out.trans (hb5.mono (show w.heap.size + 1 + 1 ≤ w4.heap.size by have := XS.out; omega)))
  have O5 := Lib.hid (O4.out.below hb5)
  have P5 := Lib.hid hop
  have hs5 := hb5.size
  clear hop hb5
  go_wp2_with fail
  go_at_call 128
  refine (through_any (w.heap.size + 1 + 1) (w.heap.size + 1 + 1) A AP c cp _ _ W [0, 0] [] w5 (Nat.le_refl _) M5.out HW.out (by simp) (by simp) O5.out P5.out).mono ?_
  rw [EP.out, ET.out]
  rintro e w6 ⟨R1, R2, v1, v2, rfl, ho6, hb6⟩
  have hb16 : Below (w.heap.size + 1 + 1) w1 w6 := B5.out.trans hb6
  have q6 := (hb16.block (w.heap.size + 1) (by omega)).trans Q0.out
  obtain ⟨t0, t1, t2, g0, g1, g2⟩ := cells3 q6
  have B6 := Lib.hid (XB.out.trans (hb16.mono (by omega)))
  have O6 := Lib.hid ho6
  have Q6 := Lib.hid q6
  clear hb16 ho6 hb6 q6
  go_wp2
  refine bodyPost_ret (v := .tuple #[.agg #[.int .i64 (bnP n).n, .slice R1 (bnP n).s.length v1, .slice R2 (bnP n).o.length v2], .bool (good (bnP n))]) (by simp [results, Try.results126, go_sem, t0, t1, t2]) rfl ⟨R1, R2, v1, v2, rfl, ?_, ?_⟩
  · refine owP_of3 (own_base O6.out.1 (by have := XS.out; omega)) (own_base O6.out.2 (by have := XS.out; omega)) Q6.out (by decide) (by decide) rfl rfl _ _ _
  · exact ((B6.out.setCell (by simp) _).setCell (by simp) _).setCell (by simp) _
theorem bnP_len {n : Nat} (hn : n ≤ 1000000) : (bnP n).s.length ≤ 1000 ∧ (bnP n).o.length ≤ 1000 := by
  have h1 := bnX_len n (Lib.bitLen n) (Lib.bitLen n - 1)
  have h2 := bl_bd hn
  exact ⟨by show (bnX n (Lib.bitLen n) (Lib.bitLen n - 1)).1.length ≤ 1000; omega, by simp [bnP]⟩
end Go.Proofs.Ytppahohakiidmaa
/- The plan by binary digits, by the model. -/
namespace Go.Proofs.Ytppahohakiidmaa
open Go.RowKit

end Go.Proofs.Ytppahohakiidmaa
/- BinaryPlan: the wrappers of both sides. -/
namespace Go.Proofs.Ytppahohakiidmaa
open Go.RowKit

def bnR (x : Int) : Pl := if isNum x then mkR (bnP x.toNat) else zeroP
def bnG (x : Int) : Bool := isNum x && good (bnP x.toNat)
theorem bnR_false {x : Int} (h : isNum x = false) : bnR x = zeroP ∧ bnG x = false := ⟨by unfold bnR; rw [if_neg (by rw [h]; decide)], by unfold bnG; rw [h]; rfl⟩
theorem bnR_true {n : Nat} (h : isNum (n : Int) = true) : bnR (n : Int) = mkR (bnP n) ∧ bnG (n : Int) = good (bnP n) := ⟨by unfold bnR; rw [if_pos h]; rfl, by unfold bnG; rw [h]; rfl⟩
theorem bnR_len (x : Int) : (bnR x).s.length ≤ 1000 ∧ (bnR x).o.length ≤ 1000 := by
  unfold bnR
  split
  · rename_i h
    have ⟨r1, r2⟩ := isNum_rng h
    obtain ⟨l1, l2⟩ := bnP_len (n := x.toNat) (by omega)
    exact mkR_len _ l1 l2
  · exact ⟨by simp [zeroP], by simp [zeroP]⟩

set_option maxRecDepth 100000 in
set_option maxHeartbeats 1000000 in
theorem planByBinaryPlan_any (x : Int) (w : World) : Calls Try.prog 97 #[.iface 103 (.agg #[.int .i64 1]), .int .i64 x] w fun e w' => ∃ R1 R2 v1 v2, e = .returned (.tuple #[.agg #[.int .i64 (bnR x).n, .slice R1 (bnR x).s.length v1, .slice R2 (bnR x).o.length v2], .bool (bnG x)]) ∧ OwP w' w.heap.size R1 R2 v1 v2 (bnR x) ∧ Below w.heap.size w w' := by
  obtain ⟨gn, hgn⟩ : ∃ g, isNum x = g := ⟨_, rfl⟩
  have HN := Lib.hid hgn
  cases gn with
  | false =>
    obtain ⟨E1, E2⟩ := bnR_false hgn
    have e1 := Lib.hid E1
    have e2 := Lib.hid E2
    clear E1 E2 hgn
    go_enter Try.func97, Try.ntmps97
    go_wp2_with fail
    go_at_call 105
    generalize hw1 : World.alloc w _ = w1
    obtain ⟨q0, xs, xb⟩ := zero_box hw1
    clear hw1
    refine (isExponent_any x w1).mono ?_
    rw [HN.out]
    rintro e w' ⟨rfl, hww⟩
    subst w'
    obtain ⟨t0, t1, t2, g0, g1, g2⟩ := cells3 q0
    go_wp2
    refine bodyPost_ret (v := (.tuple #[.agg #[.int .i64 0, .slice none 0 0, .slice none 0 0], .bool false])) (by simp [results, Try.results97, go_sem, t0, t1, t2]) rfl ⟨none, none, 0, 0, by rw [e1.out, e2.out]; rfl, by rw [e1.out]; exact OwP.zero _ _, ?_⟩
    exact ((xb.setCell (Nat.le_refl _) _).setCell (Nat.le_refl _) _).setCell (Nat.le_refl _) _
  | true =>
    have ⟨r1, r2⟩ := isNum_rng hgn
    obtain ⟨n, rfl⟩ : ∃ n : Nat, x = n := ⟨x.toNat, by omega⟩
    obtain ⟨E1, E2⟩ := bnR_true hgn
    have hME := fun W => binFor_any n W (by omega) (by omega)
    rw [← E1, ← E2] at hME
    obtain ⟨Q, hQ⟩ : ∃ Q, bnR (n : Int) = Q := ⟨_, rfl⟩
    obtain ⟨gd, hgd⟩ : ∃ Q, bnG (n : Int) = Q := ⟨_, rfl⟩
    rw [hQ, hgd] at hME
    rw [hQ, hgd]
    have HME := Lib.hid hME
    clear hME E1 E2 hQ hgd hgn
    go_enter Try.func97, Try.ntmps97
    go_wp2_with fail
    go_at_call 105
    generalize hw1 : World.alloc w _ = w1
    obtain ⟨q0, xs, xb⟩ := zero_box hw1
    clear hw1
    have Q0 := Lib.hid q0
    have XB := Lib.hid xb
    have XS := Lib.hid xs
    clear q0 xs xb
    refine (isExponent_any n w1).mono ?_
    rw [HN.out]
    rintro e w' ⟨rfl, hww⟩
    subst w'
    go_wp2_with fail
    go_at_call 126
    refine (HME.out w1).mono ?_
    rintro e w5 ⟨R1, R2, v1, v2, rfl, ho5, hb5⟩
    have q5 := (hb5.block w.heap.size (by have := XS.out; omega)).trans Q0.out
    obtain ⟨t0, t1, t2, g0, g1, g2⟩ := cells3 q5
    have B5 := Lib.hid (XB.out.trans (hb5.mono (by have := XS.out; omega)))
    have O5 := Lib.hid ho5
    have Q5 := Lib.hid q5
    clear hb5 ho5 q5
    go_wp2
    refine bodyPost_ret (v := .tuple #[.agg #[.int .i64 Q.n, .slice R1 Q.s.length v1, .slice R2 Q.o.length v2], .bool gd]) (by simp [results, Try.results97, go_sem, t0, t1, t2]) rfl ⟨R1, R2, v1, v2, rfl, ?_, ?_⟩
    · refine owP_of3 (own_base O5.out.1 (by have := XS.out; omega)) (own_base O5.out.2 (by have := XS.out; omega)) Q5.out (by decide) (by decide) rfl rfl _ _ _
    · exact ((B5.out.setCell (Nat.le_refl _) _).setCell (Nat.le_refl _) _).setCell (Nat.le_refl _) _

set_option maxRecDepth 100000 in
theorem lookBinaryPlan {w : World} {b : Nat} (h : w.ownsMap Try.prog 9 mR b 7 mD) : (Instr.lookup 98 (.map (some b)) (.string ⟨#[98, 105, 110, 97, 114, 121]⟩) false).run Try.prog w = .ok (.iface 103 (.agg #[.int .i64 1])) w := by
  obtain ⟨v, ps, hrun, hv⟩ := h.lookup mKey Try.underlying98 (z := .nilIface) (by kernel_rfl) (show mR .nilIface = some (.agg [], []) from rfl) (mKeyOf ⟨#[98, 105, 110, 97, 114, 121]⟩ (by decide))
  have e : v = .iface 103 (.agg #[.int .i64 1]) := mR_two (by rw [hv]; rfl)
  rw [← e]
  exact hrun

set_option maxRecDepth 100000 in
set_option maxHeartbeats 1000000 in
theorem planByNameBinaryPlan_any (x : Int) (w : World) : Calls Try.prog 90 #[.string ⟨#[98, 105, 110, 97, 114, 121]⟩, .int .i64 x] w fun e w' => ∃ R1 R2 v1 v2, e = .returned (.tuple #[.agg #[.int .i64 (bnR x).n, .slice R1 (bnR x).s.length v1, .slice R2 (bnR x).o.length v2], .bool (bnG x)]) ∧ OwP w' w.heap.size R1 R2 v1 v2 (bnR x) ∧ Below w.heap.size w w' := by
  have hME := fun W => planByBinaryPlan_any x W
  obtain ⟨Q, hQ⟩ : ∃ Q, bnR x = Q := ⟨_, rfl⟩
  obtain ⟨gd, hgd⟩ : ∃ Q, bnG x = Q := ⟨_, rfl⟩
  rw [hQ, hgd] at hME
  rw [hQ, hgd]
  have HME := Lib.hid hME
  clear hME hQ hgd
  go_enter Try.func90, Try.ntmps90
  go_wp2_with fail
  go_at_call 98
  generalize hw1 : World.alloc w _ = w1
  obtain ⟨q0, xs, xb⟩ := zero_box hw1
  clear hw1
  refine (methods_any w1).mono ?_
  rintro e w2 ⟨b, rfl, hmap, hb2⟩
  have hlook := lookBinaryPlan hmap
  have Q2 := Lib.hid ((hb2.block w.heap.size (by omega)).trans q0)
  have XB := Lib.hid (xb.trans (hb2.mono (by omega)))
  have XS := Lib.hid (show w.heap.size < w2.heap.size by have := hb2.size; omega)
  clear q0 xs xb hmap hb2
  go_wp2_with fail
  go_at_call 97
  refine (HME.out w2).mono ?_
  rintro e w5 ⟨R1, R2, v1, v2, rfl, ho5, hb5⟩
  have q5 := (hb5.block w.heap.size (by have := XS.out; omega)).trans Q2.out
  obtain ⟨t0, t1, t2, g0, g1, g2⟩ := cells3 q5
  have B5 := Lib.hid (XB.out.trans (hb5.mono (by have := XS.out; omega)))
  have O5 := Lib.hid ho5
  have Q5 := Lib.hid q5
  clear hb5 ho5 q5 hlook
  go_wp2
  refine bodyPost_ret (v := .tuple #[.agg #[.int .i64 Q.n, .slice R1 Q.s.length v1, .slice R2 Q.o.length v2], .bool gd]) (by simp [results, Try.results90, go_sem, t0, t1, t2]) rfl ⟨R1, R2, v1, v2, rfl, ?_, ?_⟩
  · refine owP_of3 (own_base O5.out.1 (by have := XS.out; omega)) (own_base O5.out.2 (by have := XS.out; omega)) Q5.out (by decide) (by decide) rfl rfl _ _ _
  · exact ((B5.out.setCell (Nat.le_refl _) _).setCell (Nat.le_refl _) _).setCell (Nat.le_refl _) _

set_option maxRecDepth 100000 in
set_option maxHeartbeats 1000000 in
theorem implBinaryPlan_any (x : Int) (w : World) : Calls Try.prog 71 #[.int .i64 x] w fun e w' => ∃ R1 R2 v1 v2, e = .returned (.tuple #[.agg #[.int .i64 (bnR x).n, .slice R1 (bnR x).s.length v1, .slice R2 (bnR x).o.length v2], .bool (bnG x)]) ∧ OwP w' w.heap.size R1 R2 v1 v2 (bnR x) ∧ Below w.heap.size w w' := by
  have hME := fun W => planByNameBinaryPlan_any x W
  obtain ⟨Q, hQ⟩ : ∃ Q, bnR x = Q := ⟨_, rfl⟩
  obtain ⟨gd, hgd⟩ : ∃ Q, bnG x = Q := ⟨_, rfl⟩
  rw [hQ, hgd] at hME
  rw [hQ, hgd]
  have HME := Lib.hid hME
  clear hME hQ hgd
  go_enter Try.func71, Try.ntmps71
  go_wp2_with fail
  go_at_call 90
  generalize hw1 : World.alloc w _ = w1
  obtain ⟨q0, xs, xb⟩ := zero_box hw1
  clear hw1
  have Q2 := Lib.hid q0
  have XB := Lib.hid xb
  have XS := Lib.hid xs
  clear q0 xs xb
  refine (HME.out w1).mono ?_
  rintro e w5 ⟨R1, R2, v1, v2, rfl, ho5, hb5⟩
  have q5 := (hb5.block w.heap.size (by have := XS.out; omega)).trans Q2.out
  obtain ⟨t0, t1, t2, g0, g1, g2⟩ := cells3 q5
  have B5 := Lib.hid (XB.out.trans (hb5.mono (by have := XS.out; omega)))
  have O5 := Lib.hid ho5
  have Q5 := Lib.hid q5
  clear hb5 ho5 q5
  go_wp2
  refine bodyPost_ret (v := .tuple #[.agg #[.int .i64 Q.n, .slice R1 Q.s.length v1, .slice R2 Q.o.length v2], .bool gd]) (by simp [results, Try.results71, go_sem, t0, t1, t2]) rfl ⟨R1, R2, v1, v2, rfl, ?_, ?_⟩
  · refine owP_of3 (own_base O5.out.1 (by have := XS.out; omega)) (own_base O5.out.2 (by have := XS.out; omega)) Q5.out (by decide) (by decide) rfl rfl _ _ _
  · exact ((B5.out.setCell (Nat.le_refl _) _).setCell (Nat.le_refl _) _).setCell (Nat.le_refl _) _
end Go.Proofs.Ytppahohakiidmaa
/- A number put into a list of own memory, by the library. -/
namespace Go.Proofs.Ytppahohakiidmaa
open Go.RowKit

theorem append_two (w : World) (ty : TypeId) (A : Option Addr) (n c : Nat) (x : Value) : (Builtin.append_ #[53, 22] ty #[.slice A n c, x]).run Try.prog w = (Builtin.append_ #[53, 53] ty #[.slice A n c, x]).run Try.prog w := by
  have u1 := run_underlying Try.underlying53
  have u2 := run_underlying Try.underlying22
  unfold Builtin.append_
  simp [Sem.run_bind, u1, u2]

/-- The operation copy, where its run is known. -/
theorem at_copy (w : World) {o : Oper} {a : Act} {K : Act → World → Prop} {Q : Exit → Act → World → Prop} (d s : Operand) (t t' : TypeId)
    (ho : o.op = .call { callee := .builtin .copy, args := #[d, s], argTypes := #[t, t'] }) (v u : Value) (hd : a.eval d = v) (hs : a.eval s = u) {v' : Value} {w' : World}
    (hr : (Builtin.copy_ #[t, t'] o.type #[v, u]).run Try.prog w = .ok v' w') (h : K (a.put o.dst v') w') : o.wp Try.prog a w K Q := by
  unfold Oper.wp execOp
  simp only [ho, resolve, invoke, builtin, Sem.run_bind, Sem.run_pure, Result.andThen_ok, List.map_toArray, List.map_cons, List.map_nil, hd, hs, hr]
  exact h
theorem list_copy (w : World) {ops : Array Oper} {rest : List Oper} {o : Oper} {a : Act} {Q : Exit → Act → World → Prop} (hgd : o.guard = none) (d s : Operand) (t t' : TypeId)
    (ho : o.op = .call { callee := .builtin .copy, args := #[d, s], argTypes := #[t, t'] }) (v u : Value) (hd : a.eval d = v) (hs : a.eval s = u) {v' : Value} {w' : World}
    (hr : (Builtin.copy_ #[t, t'] o.type #[v, u]).run Try.prog w = .ok v' w') (h : wpList Try.prog ops Q rest (a.put o.dst v') w') : wpList Try.prog ops Q (o :: rest) a w :=
  wpList_plain hgd fun _ hK => at_copy w d s t t' ho v u hd hs hr (hK _ _ h)
theorem step_copy {ops : Array Oper} {o : Oper} {a : Act} {w : World} {K : Act → World → Prop} {Q : Exit → Act → World → Prop} {E : Prop}
    (hg : o.guard = none) (d x : Operand) (dT sT : TypeId) (hop : o.op = Op.call { callee := Callee.builtin Builtin.copy, args := #[d, x], argTypes := #[dT, sT] })
    (v u : Value) (hd : a.eval d = v) (hx : a.eval x = u) {v' : Value} {w' : World} (hr : (Builtin.copy_ #[dT, sT] o.type #[v, u]).run Try.prog w = .ok v' w') (hK : K (a.put o.dst v') w') :
    if Region.wanted o (yielded ops a.tmps) = true then Oper.wp Try.prog o a w K Q else E := by
  have hw : Region.wanted o (yielded ops a.tmps) = true := by simp [Region.wanted, hg]
  rw [if_pos hw]
  unfold Oper.wp
  simp [execOp, hop, resolve, invoke, builtin, hd, hx, hr, Result.andThen]
  exact hK

/-- Stores of a list keep the block's size and type. -/
theorem setCells_heap (b : Nat) : ∀ (vs : List Value) (o : Nat) (w : World) (cur : Array Value) (t : TypeId), w.heap[b]? = some (.cells cur t (0, 0)) →
    ∃ cur', (w.setCells b o vs).heap[b]? = some (.cells cur' t (0, 0)) ∧ cur'.size = cur.size
  | [], _, _, cur, _, h => ⟨cur, h, rfl⟩
  | v :: vs, o, _, cur, t, h => by
    have h1 := heap_setCell_same _ b o cur t v h
    obtain ⟨cur', h2, h3⟩ := setCells_heap b vs (o + 1) _ _ t h1
    exact ⟨cur', h2, by rw [h3]; simp⟩
theorem setCells_below {B b : Nat} (hB : B ≤ b) : ∀ (vs : List Value) (o : Nat) (w0 w : World), Below B w0 w → Below B w0 (w.setCells b o vs)
  | [], _, _, _, h => h
  | v :: vs, o, w0, _, h => setCells_below hB vs (o + 1) w0 _ (h.setCell (p := ⟨b, o, none⟩) hB v)
/-- A row by its block and its cells. -/
theorem own_cells_mk {w : World} {B g cap n : Nat} {cur : Array Value} {t : TypeId} {xs : List Value} (hB : B ≤ g) (hg : w.heap[g]? = some (.cells cur t (0, 0))) (hs : cur.size = cap) (hn : n ≤ cap) (hM : cap ≤ maxLen) (hl : xs.length = n)
    (hc : ∀ j, j < n → w.cell? ⟨g, j, none⟩ = xs[j]?) : w.ownsRow B t 1 (.slice (some ⟨g, 0, none⟩) n cap) n xs := by
  refine ⟨by omega, .inr ⟨g, cap, cur, rfl, hB, hg, hn, hM, by omega, ?_⟩⟩
  refine List.ext_getElem (by rw [List.length_take, Array.length_toList]; omega) fun j h1 h2 => ?_
  have hj : j < n := by omega
  have h := hc j hj
  unfold World.cell? at h
  rw [hg] at h
  simp only [Option.isSome_none, Bool.false_eq_true, if_false] at h
  rw [List.getElem?_eq_getElem h2] at h
  rw [List.getElem_take]
  have h3 : j < cur.size := by omega
  rw [Array.getElem?_eq_getElem h3] at h
  simp only [Option.some.injEq] at h
  rw [Array.getElem_toList]
  exact h
/-- The list with x at index i. -/
def insA (l : List Int) (i : Nat) (x : Int) : List Int := l.take i ++ x :: l.drop i
theorem insA_length (l : List Int) {i : Nat} (x : Int) (hi : i ≤ l.length) : (insA l i x).length = l.length + 1 := by
  unfold insA
  rw [List.length_append, List.length_cons, List.length_take, List.length_drop]
  omega
theorem insA_at (l : List Int) {i : Nat} (x : Int) (hi : i ≤ l.length) (j : Nat) : ((insA l i x).map I)[j]? = if j < i then (l.map I)[j]? else if j = i then some (I x) else (l.map I)[j - 1]? := by
  unfold insA
  rw [List.map_append, List.map_cons, List.map_take, List.map_drop]
  by_cases h1 : j < i
  · rw [if_pos h1, List.getElem?_append_left (by simp; omega), List.getElem?_take, if_pos h1]
  · rw [if_neg h1, List.getElem?_append_right (by simp; omega)]
    have e : (List.take i (l.map I)).length = i := by simp; omega
    rw [e]
    by_cases h2 : j = i
    · subst h2
      simp
    · rw [if_neg h2, show j - i = (j - i - 1) + 1 by omega, List.getElem?_cons_succ, List.getElem?_drop]
      congr 1
      omega

set_option maxRecDepth 100000 in
set_option maxHeartbeats 2000000 in
/-- At the end. -/
theorem insert_end (B0 : Nat) (A : Option Addr) (c n : Nat) (x : Int) (vb vc : Nat) (l : List Int) (w : World) (hln : l.length = n) (hn : n ≤ 1000) (hB : B0 ≤ w.heap.size)
    (hown : w.ownsRow B0 3 1 (.slice A n c) n (l.map I)) (hv : w.cell? ⟨vb, 0, none⟩ = some (I x)) :
    Calls Try.prog 85 #[.slice A n c, .int .i64 n, .slice (some ⟨vb, 0, none⟩) 1 vc] w fun e w' =>
      ∃ A' c', e = .returned (.slice A' (n + 1) c') ∧ w'.ownsRow B0 3 1 (.slice A' (n + 1) c') (n + 1) ((insA l n x).map I) ∧ Below B0 w w' := by
  obtain ⟨i0, hi, hz0, hz1, hz2⟩ := info_parts info_int
  have hrun := fun ty => run_append_lies (P := Try.prog) (w := w) 53 ty B0 3 i0 _ 1 8 Try.underlying53 hi hz0 hz1 hz2 rfl (by omega) (.slice A n c) n (l.map I) hown
    ⟨vb, 0, none⟩ 1 vc [I x] rfl (fun j u hj => by
      match j, hj with
      | 0, hj => simp at hj; subst hj; simpa [Addr.add] using hv) (fun u hu => by simp at hu; subst hu; rfl) (by omega) (by unfold maxLen; omega) (by omega) hB w.heap.size rfl
  have hrun2 : ∀ ty, ∃ g cap w', (Builtin.append_ #[53, 22] ty #[.slice A n c, .slice (some ⟨vb, 0, none⟩) 1 vc]).run Try.prog w = .ok (.slice (some ⟨g, 0, none⟩) (n + 1) cap) w' ∧
      w'.ownsRow B0 3 1 (.slice (some ⟨g, 0, none⟩) (n + 1) cap) (n + 1) (l.map I ++ [I x]) ∧ Below B0 w w' := fun ty => by
    obtain ⟨g, cap, w', hr, h2, h3, _, _⟩ := hrun ty
    exact ⟨g, cap, w', (append_two w ty A n c _).trans hr, h2, below_of_own hown hB h3⟩
  obtain ⟨g, cap, w', hr, h2, h3⟩ := hrun2 53
  have HR := Lib.hid hr
  have H2 := Lib.hid h2
  have H3 := Lib.hid h3
  clear hrun hrun2 hown hr h2 h3
  go_enter Try.func85, Try.ntmps85
  go_wp2_with (at_builtin; refine Lib.wpList_append_run _ rfl _ _ _ _ rfl _ _ rfl rfl _ _ HR.out ?_)
  all_goals
    go_ret
    refine ⟨_, _, rfl, ?_, H3.out⟩
    have e : insA l n x = l ++ [x] := by unfold insA; rw [List.take_of_length_le (by omega), List.drop_of_length_le (by omega)]
    rw [e, List.map_append]
    exact H2.out

theorem cells_some {w : World} {b : Nat} {cur : Array Value} {t : TypeId} (h : w.heap[b]? = some (.cells cur t (0, 0))) {j : Nat} (hj : j < cur.size) : (w.cell? ⟨b, j, none⟩).isSome = true := by
  unfold World.cell?
  rw [h]
  simp [hj]
theorem cells_free {w : World} {b : Nat} {cur : Array Value} {t : TypeId} (h : w.heap[b]? = some (.cells cur t (0, 0))) (j : Nat) : w.frozen? ⟨b, j, none⟩ = false := by
  unfold World.frozen?
  rw [h]
  simp
theorem cells_shape {w : World} {b : Nat} {cur : Array Value} {t : TypeId} (h : w.heap[b]? = some (.cells cur t (0, 0))) : w.shape? b = some (t, cur.size) := by
  unfold World.shape?
  rw [h]
theorem isSome_set (b : Nat) (vs : List Value) (o : Nat) (w : World) (h : ∀ j, j < vs.length → (w.cell? ⟨b, o + j, none⟩).isSome = true) (k : Nat) (hk : (w.cell? ⟨b, k, none⟩).isSome = true) : ((w.setCells b o vs).cell? ⟨b, k, none⟩).isSome = true := by
  by_cases hin : o ≤ k ∧ k < o + vs.length
  · have := World.cell?_setCells_in b vs o w h (k - o) (by omega)
    rw [show o + (k - o) = k by omega] at this
    rw [this]; rfl
  · rw [World.cell?_setCells_out b vs o w ⟨b, k, none⟩ (fun _ _ => by show k < o ∨ o + vs.length ≤ k; omega)]
    exact hk

set_option maxRecDepth 100000 in
set_option maxHeartbeats 4000000 in
theorem insert_room (B0 : Nat) (b c n i : Nat) (x : Int) (vb vc : Nat) (l : List Int) (w : World) (hln : l.length = n) (hi : i < n) (hn : n ≤ 1000) (hc : n + 1 ≤ c)
    (hown : w.ownsRow B0 3 1 (.slice (some ⟨b, 0, none⟩) n c) n (l.map I)) (hv : w.heap[vb]? = some (.cells #[I x] 3 (0, 0))) (hvb : vb ≠ b) :
    Calls Try.prog 85 #[.slice (some ⟨b, 0, none⟩) n c, .int .i64 i, .slice (some ⟨vb, 0, none⟩) 1 vc] w fun e w' =>
      ∃ A' c', e = .returned (.slice A' (n + 1) c') ∧ w'.ownsRow B0 3 1 (.slice A' (n + 1) c') (n + 1) ((insA l i x).map I) ∧ Below B0 w w' := by
  obtain ⟨g, cap, cur, hve, hBb, hg, hncap, hcM, hcs, _⟩ := hown.2.resolve_left (fun h => by have := h.1; simp at this)
  simp only [Value.slice.injEq, Option.some.injEq, Addr.mk.injEq, and_true, true_and] at hve
  obtain ⟨rfl, rfl⟩ := hve
  have hcsz : cur.size = c := by omega
  have hcl : ∀ j v, (l.map I)[j]? = some v → w.cell? ⟨b, 0 + j, none⟩ = some v := fun j v hj => by
    have hjl : j < (l.map I).length := (List.getElem?_eq_some_iff.1 hj).1
    rw [Nat.zero_add, hown.cellAt j (by simp at hjl; omega), hj]
  have hsp : ∀ j, j < n + 1 → (w.cell? ⟨b, 0 + j, none⟩).isSome = true := fun j hj => by rw [Nat.zero_add]; exact cells_some hg (by omega)
  have hfz : ∀ j, j < n + 1 → w.frozen? ⟨b, 0 + j, none⟩ = false := fun j _ => cells_free hg _
  have hvs : ∀ j v, ([I x] : List Value)[j]? = some v → w.cell? ⟨vb, 0 + j, none⟩ = some v := fun j v hj => by
    match j, hj with
    | 0, hj => simp at hj; subst hj; unfold World.cell?; rw [hv]; simp
  have hz2 : ¬ ((i : Int) = (n : Int)) := by omega
  obtain ⟨i0, hi0, hz0, hz1, hz2'⟩ := info_parts info_int
  have hsz : (Try.prog.info? 3).map (·.size) = some 1 := by rw [hi0]; simp [hz1]
  have hov : ∀ lb cb, (callFunc 95 #[.slice (some ⟨vb, 0, none⟩) 1 vc, .slice (some ⟨b, i + 1, none⟩) lb cb]).run Try.prog w = .ok (.value (.bool false)) w := fun lb cb => by
    rw [run_callFunc_extern Try.func95 (by kernel_rfl) (by kernel_rfl) (by kernel_rfl) (e := Extern.SlicesOverlaps.overlaps #[22, 22] #[4]) (by kernel_rfl),
      Lib.run_overlaps_apart w 22 4 3 Try.underlying22 1 Try.sizeOf3 ⟨vb, 0, none⟩ ⟨b, i + 1, none⟩ 1 vc lb cb hvb 3 3 1 cur.size (cells_shape hv) (cells_shape hg) (by omega) (cells_free hv 0) (cells_free hv 1)]
    rfl
  have hdl : ((l.map I).drop i).length = n - i := by rw [List.length_drop, List.length_map, hln]
  have hw1 : IntKind.i64.wrap ((i : Int) + 1) = (i : Int) + 1 := IntWalk.i64_in _ (by omega)
  have hw2 : IntKind.i64.wrap ((n : Int) + 1) = (n : Int) + 1 := IntWalk.i64_in _ (by omega)
  have hb1 : (0 : Int) ≤ (i : Int) + 1 := by omega
  have hin : i ≤ n := by omega
  have htn : ((i : Int) + 1).toNat = i + 1 := by omega
  have htn2 : ((n : Int) + 1).toNat = n + 1 := by omega
  have hb2 : ¬ (c = i + 1) := by omega
  have hb3 : (i : Int) ≤ (n : Int) + 1 := by omega
  have hb4 : ¬ (c = i) := by omega
  have hroom : ¬ ((c : Int) < (n : Int) + 1) := by omega
  have hc1 : (n : Int) + 1 ≤ (c : Int) := by omega
  have h1c : ∀ v ∈ l.map I, v.oneCell' = true := ints_one l
  have hcp1 : ∀ ty dc sc, (Builtin.copy_ #[53, 53] ty #[.slice (some ⟨b, i + 1, none⟩) (n + 1 - (i + 1)) dc, .slice (some ⟨b, i, none⟩) (n + 1 - i) sc]).run Try.prog w.drew = .ok (goInt ((l.map I).drop i).length) (w.drew.setCells b (i + 1) ((l.map I).drop i)) := fun ty dc sc =>
    run_copy_cells w.drew _ _ ty 3 b (i + 1) (n + 1 - (i + 1)) dc ⟨b, i, none⟩ (n + 1 - i) sc ((l.map I).drop i) Try.underlying53 hsz (by rw [hdl]; simp only [Nat.min_def]; split <;> omega)
      (fun j v hj => by rw [Addr.add_lit]; have h := hcl (i + j) v (by rwa [List.getElem?_drop] at hj); rwa [Nat.zero_add] at h)
      (fun j hj => by have h := hsp (i + 1 + j) (by omega); rwa [Nat.zero_add] at h) (fun j _ => cells_free hg _) (fun v hv => h1c v (List.mem_of_mem_drop hv))
  obtain ⟨W1, hW1⟩ : ∃ W1, W1 = w.drew.setCells b (i + 1) ((l.map I).drop i) := ⟨_, rfl⟩
  have hsp1 : ∀ k, k < n + 1 → (W1.cell? ⟨b, k, none⟩).isSome = true := fun k hk => by
    rw [hW1]
    exact isSome_set b _ _ _ (fun j hj => by have h := hsp (i + 1 + j) (by omega); rwa [Nat.zero_add] at h) _ (by have h := hsp k hk; rwa [Nat.zero_add] at h)
  have hcp2 : ∀ (W : World), (∀ x, W.cell? x = W1.cell? x) → (∀ x, W.frozen? x = W1.frozen? x) → ∀ ty dc, (Builtin.copy_ #[53, 22] ty #[.slice (some ⟨b, i, none⟩) (n + 1 - i) dc, .slice (some ⟨vb, 0, none⟩) 1 vc]).run Try.prog W = .ok (goInt ([I x] : List Value).length) (W.setCells b i [I x]) := fun W hWc hWf ty dc =>
    run_copy_cells W _ _ ty 3 b i (n + 1 - i) dc ⟨vb, 0, none⟩ 1 vc [I x] Try.underlying53 hsz (by simp only [Nat.min_def, List.length_cons, List.length_nil]; split <;> omega)
      (fun j v hj => by
        rw [Addr.add_lit, hWc, hW1, World.cell?_setCells_out b _ _ _ _ (fun h _ => absurd h hvb)]
        exact hvs j v hj)
      (fun j hj => by rw [hWc]; exact hsp1 _ (by simp at hj; omega)) (fun j _ => by rw [hWf, hW1, World.frozen?_setCells]; exact cells_free hg _) (fun u hu => by simp at hu; subst hu; rfl)
  rw [← hW1] at hcp1
  have HW1 := Lib.hid hW1
  have HG := Lib.hid hg
  have HOWN := Lib.hid hown
  have HSP := Lib.hid hsp
  have HCS := Lib.hid hcsz
  have HSP1 := Lib.hid hsp1
  have HCL := Lib.hid hcl
  have HCP1 := Lib.hid hcp1
  have HCP2 := Lib.hid hcp2
  clear hW1 hg hown hsp hsp1 hcl hcp1 hcp2 hfz hvs h1c hv hi0 hz0 hz1 hz2' hsz hdl hcs hcsz hln
  go_enter Try.func85, Try.ntmps85
  go_wp2_with (simp only [hov])
  refine wp_region_Tw [0, 1, 2, 3, 4, 5, 6, 7] [] (.lp 0 (.lp 1 (.lp 2 (.lp 3 (.lp 4 (.lp 5 (.lp 6 (.lp 7 (.hv 8 (.done)))))))))) (by kernel_rfl) (by kernel_rfl) ?_
  (repeat (first | (refine T_lp rfl (fun K hK => ?_); go_simp; refine hK _ ?_; clear hK K) | (refine T_ls rfl rfl (fun K hK => ?_); go_simp; refine hK _ ?_; clear hK K)))
  refine T_hv rfl (by kernel_rfl) (fun K hK => ?_)
  refine step_copy rfl (.tmp 73) (.tmp 76) 53 53 rfl (.slice (some ⟨b, i + 1, none⟩) (n + 1 - (i + 1)) (c - (i + 1))) (.slice (some ⟨b, i, none⟩) (n + 1 - i) (c - i)) ?_ ?_ (HCP1.out _ _ _) ?_
  · simp [Act.eval]
  · simp [Act.eval]
  · (go_simp; refine hK _ _ ?_; clear hK K)
    refine T_done ?_
    have hc2 := HCP2.out W1 (fun _ => rfl) (fun _ => rfl) 3 (c - i)
    go_wp2_with (simp only [hc2])
    go_ret
    refine ⟨_, _, rfl, ?_, ?_⟩
    · obtain ⟨cu1, hc1', hs1⟩ := setCells_heap b ((l.map I).drop i) (i + 1) w.drew cur _ HG.out
      rw [← HW1.out] at hc1'
      obtain ⟨cu2, hc2', hs2⟩ := setCells_heap b [I x] i W1 cu1 _ hc1'
      have hdl : ((l.map I).drop i).length = l.length - i := by simp
      have hll : l.length = n := by have h := HOWN.out.1; simpa using h
      refine own_cells_mk hBb hc2' (by have := HCS.out; omega) hc hcM (by simp [insA_length l x (by omega : i ≤ l.length), hll]) (fun j hj => ?_)
      rw [insA_at l x (by omega : i ≤ l.length) j]
      by_cases h1 : j < i
      · rw [if_pos h1, World.cell?_setCells_out b _ _ _ _ (fun _ _ => by simp; omega), HW1.out, World.cell?_setCells_out b _ _ _ _ (fun _ _ => by simp; omega)]
        exact HOWN.out.cellAt j (by omega)
      · rw [if_neg h1]
        by_cases h2 : j = i
        · subst h2
          rw [if_pos rfl]
          have h := World.cell?_setCells_in b [I x] j W1 (fun t ht => by have := HSP1.out (j + t) (by simp at ht; omega); exact this) 0 (by simp)
          rw [Nat.add_zero] at h
          rw [h]
          rfl
        · rw [if_neg h2, World.cell?_setCells_out b _ _ _ _ (fun _ _ => by simp; omega), HW1.out]
          have h := World.cell?_setCells_in b ((l.map I).drop i) (i + 1) w.drew (fun t ht => by have := HSP.out (i + 1 + t) (by omega); rw [Nat.zero_add] at this; exact this) (j - (i + 1)) (by omega)
          rw [show i + 1 + (j - (i + 1)) = j by omega] at h
          rw [h, List.getElem_drop, List.getElem?_eq_getElem (by simp; omega)]
          congr 2
          omega
    · refine setCells_below hBb _ _ _ _ ?_
      rw [HW1.out]
      exact setCells_below hBb _ _ _ _ (Below.refl _ _).drew

theorem cell_blk {w : World} {b o : Nat} {v : Value} (h : w.cell? ⟨b, o, none⟩ = some v) : b < w.heap.size := by
  unfold World.cell? at h
  simp only at h
  cases hb : w.heap[b]? with
  | none => rw [hb] at h; simp at h
  | some o => exact (Array.getElem?_eq_some_iff.1 hb).1

set_option maxRecDepth 100000 in
set_option maxHeartbeats 4000000 in
theorem insert_grow (B0 : Nat) (b c n i : Nat) (x : Int) (vb vc : Nat) (l : List Int) (w : World) (hln : l.length = n) (hi : i < n) (hn : n ≤ 1000) (hc : c < n + 1) (hB : B0 ≤ w.heap.size)
    (hown : w.ownsRow B0 3 1 (.slice (some ⟨b, 0, none⟩) n c) n (l.map I)) (hv : w.heap[vb]? = some (.cells #[I x] 3 (0, 0))) :
    Calls Try.prog 85 #[.slice (some ⟨b, 0, none⟩) n c, .int .i64 i, .slice (some ⟨vb, 0, none⟩) 1 vc] w fun e w' =>
      ∃ A' c', e = .returned (.slice A' (n + 1) c') ∧ w'.ownsRow B0 3 1 (.slice A' (n + 1) c') (n + 1) ((insA l i x).map I) ∧ Below B0 w w' := by
  obtain ⟨g, cap, cur, hve, hBb, hg, hncap, hcM, hcs, _⟩ := hown.2.resolve_left (fun h => by have := h.1; simp at this)
  simp only [Value.slice.injEq, Option.some.injEq, Addr.mk.injEq, and_true, true_and] at hve
  obtain ⟨rfl, rfl⟩ := hve
  have hcl : ∀ j v, (l.map I)[j]? = some v → w.cell? ⟨b, 0 + j, none⟩ = some v := fun j v hj => by
    have hjl : j < (l.map I).length := (List.getElem?_eq_some_iff.1 hj).1
    rw [Nat.zero_add, hown.cellAt j (by simp at hjl; omega), hj]
  have hvs : ∀ j v, ([I x] : List Value)[j]? = some v → w.cell? ⟨vb, 0 + j, none⟩ = some v := fun j v hj => by
    match j, hj with
    | 0, hj => simp at hj; subst hj; unfold World.cell?; rw [hv]; simp
  have hbw : b < w.heap.size := (Array.getElem?_eq_some_iff.1 hg).1
  have hvw : vb < w.heap.size := (Array.getElem?_eq_some_iff.1 hv).1
  have hz2 : ¬ ((i : Int) = (n : Int)) := by omega
  obtain ⟨i0, hi0, hz0, hz1, hz2'⟩ := info_parts info_int
  have hsz : (Try.prog.info? 3).map (·.size) = some 1 := by rw [hi0]; simp [hz1]
  have hlm : (l.map I).length = n := by simp [hln]
  have hkk : (n : Int) + 1 - (i : Int) = ((n + 1 - i : Nat) : Int) := by omega
  have hik : i + (n + 1 - i) = n + 1 := by omega
  have hold : (Builtin.firstCells i0.size i (.slice (some ⟨b, 0, none⟩) i c)).run Try.prog w.drew = .ok ((l.map I).take i).toArray w.drew := by
    rw [hz1]
    exact run_firstCells_some w.drew 1 i ⟨b, 0, none⟩ i c ((l.map I).take i) (by rw [List.length_take]; omega) (fun j v hj => by
      rw [Addr.add_lit]
      rw [List.getElem?_take] at hj
      split at hj
      · exact hcl j v hj
      · cases hj)
  have hrz : ∀ ty, (Builtin.append_ #[53, 3] ty #[.slice (some ⟨b, 0, none⟩) i c, .int .i64 ((n : Int) + 1 - (i : Int))]).run Try.prog w =
      .ok (.slice (some ⟨w.heap.size, 0, none⟩) (n + 1) (grownCap w (n + 1) c 3)) (w.drew.alloc (.cells (((l.map I).take i).toArray ++ Builtin.zeroCells (Value.int .i64 0).cells (n + 1 - i) ++ Builtin.zeroCells (Value.int .i64 0).cells (grownCap w (n + 1) c 3 - (n + 1))) 3)) := fun ty => by
    have h := Lib.run_append_grow_zeros w 53 3 ty 3 i0 _ .i64 .i64 Try.underlying53 Try.underlying3 hi0 hz0 (some ⟨b, 0, none⟩) i c ((l.map I).take i) hold (n + 1 - i) (by omega) (by omega) (by omega) (by omega) (by rw [hz2']; omega) (by rw [hz2', hik]; exact growslice_fits hc (by omega))
    rw [hik] at h
    rw [hkk]
    exact h
  have hGn : n + 1 ≤ grownCap w (n + 1) c 3 := grownCap_ge w _ _ _
  have hGM : grownCap w (n + 1) c 3 ≤ maxLen := grownCap_le_maxLen w (n + 1) c 3 (by unfold maxLen; omega)
  obtain ⟨G, hG⟩ : ∃ G, G = grownCap w (n + 1) c 3 := ⟨_, rfl⟩
  rw [← hG] at hrz hGn hGM
  obtain ⟨ROW, hROW⟩ : ∃ ROW : Array Value, ROW = ((l.map I).take i).toArray ++ Builtin.zeroCells (Value.int .i64 0).cells (n + 1 - i) ++ Builtin.zeroCells (Value.int .i64 0).cells (G - (n + 1)) := ⟨_, rfl⟩
  have hRs : ROW.size = G := by
    rw [hROW]
    simp [Builtin.zeroCells, Value.cells]
    omega
  have hRat : ∀ j, j < i → ROW[j]? = (l.map I)[j]? := fun j hj => by
    rw [hROW, Array.getElem?_append_left (by simp [Builtin.zeroCells, Value.cells]; omega), Array.getElem?_append_left (by simp; omega)]
    simp [hj]
  rw [← hROW] at hrz
  obtain ⟨W1, hW1⟩ : ∃ W1, W1 = w.drew.alloc (.cells ROW 3) := ⟨_, rfl⟩
  rw [← hW1] at hrz
  have hR1 : ∀ j, W1.cell? ⟨w.heap.size, j, none⟩ = ROW[j]? := fun j => by rw [hW1, World.cell?_alloc_at (w := w.drew) ROW _ w.heap.size j rfl]
  have hN : ∀ j, j < n + 1 → (W1.cell? ⟨w.heap.size, j, none⟩).isSome = true := fun j hj => by
    rw [hR1, Array.getElem?_eq_getElem (by omega)]; rfl
  have hNf : ∀ j, W1.frozen? ⟨w.heap.size, j, none⟩ = false := fun j => by rw [hW1]; exact World.frozen?_alloc_at (w := w.drew) ROW _ w.heap.size j rfl
  have hOb : ∀ j v, w.cell? ⟨b, j, none⟩ = some v → W1.cell? ⟨b, j, none⟩ = some v := fun j v h => by rw [hW1, World.cell?_alloc_past (w := w.drew) _ b j hbw]; exact h
  have hOv : ∀ j v, w.cell? ⟨vb, j, none⟩ = some v → W1.cell? ⟨vb, j, none⟩ = some v := fun j v h => by rw [hW1, World.cell?_alloc_past (w := w.drew) _ vb j hvw]; exact h
  have hbN : b ≠ w.heap.size := by omega
  have hdl : ((l.map I).drop i).length = n - i := by rw [List.length_drop, hlm]
  have h1c : ∀ v ∈ l.map I, v.oneCell' = true := ints_one l
  have hcpA : ∀ (W : World), (∀ x, W.cell? x = W1.cell? x) → (∀ x, W.frozen? x = W1.frozen? x) → ∀ ty dc, (Builtin.copy_ #[53, 22] ty #[.slice (some ⟨w.heap.size, i, none⟩) (n + 1 - i) dc, .slice (some ⟨vb, 0, none⟩) 1 vc]).run Try.prog W = .ok (goInt ([I x] : List Value).length) (W.setCells w.heap.size i [I x]) := fun W hWc hWf ty dc =>
    run_copy_cells W _ _ ty 3 w.heap.size i (n + 1 - i) dc ⟨vb, 0, none⟩ 1 vc [I x] Try.underlying53 hsz (by simp only [Nat.min_def, List.length_cons, List.length_nil]; split <;> omega)
      (fun j v hj => by rw [Addr.add_lit, hWc]; exact hOv _ v (hvs j v hj))
      (fun j hj => by rw [hWc]; exact hN _ (by simp at hj; omega)) (fun j _ => by rw [hWf]; exact hNf _) (fun u hu => by simp at hu; subst hu; rfl)
  have hcpB : ∀ (W : World), (∀ y, W.cell? y = (W1.setCells w.heap.size i [I x]).cell? y) → (∀ y, W.frozen? y = (W1.setCells w.heap.size i [I x]).frozen? y) → ∀ ty dc sc, (Builtin.copy_ #[53, 53] ty #[.slice (some ⟨w.heap.size, i + 1, none⟩) (n + 1 - (i + 1)) dc, .slice (some ⟨b, i, none⟩) (n - i) sc]).run Try.prog W = .ok (goInt ((l.map I).drop i).length) (W.setCells w.heap.size (i + 1) ((l.map I).drop i)) := fun W hWc hWf ty dc sc =>
    run_copy_cells W _ _ ty 3 w.heap.size (i + 1) (n + 1 - (i + 1)) dc ⟨b, i, none⟩ (n - i) sc ((l.map I).drop i) Try.underlying53 hsz (by rw [hdl]; simp only [Nat.min_def]; split <;> omega)
      (fun j v hj => by
        rw [Addr.add_lit, hWc, World.cell?_setCells_out _ _ _ _ _ (fun h _ => absurd h hbN)]
        have h := hcl (i + j) v (by rwa [List.getElem?_drop] at hj)
        rw [Nat.zero_add] at h
        exact hOb _ v h)
      (fun j hj => by rw [hWc]; exact isSome_set _ _ _ _ (fun t ht => hN _ (by simp at ht; omega)) _ (hN _ (by omega)))
      (fun j _ => by rw [hWf, World.frozen?_setCells]; exact hNf _) (fun v hv => h1c v (List.mem_of_mem_drop hv))
  have hGi : ¬ (G = i) := by omega
  have hGim : ¬ (G = i + 1) := by omega
  have hci : ¬ (c = i) := by omega
  have hz3 : (c : Int) < (n : Int) + 1 := by omega
  have hG63 : G ≤ 9223372036854775807 := by unfold maxLen at hGM; omega
  have hw1 : IntKind.i64.wrap ((i : Int) + 1) = (i : Int) + 1 := IntWalk.i64_in _ (by omega)
  have hw2 : IntKind.i64.wrap ((n : Int) + 1) = (n : Int) + 1 := IntWalk.i64_in _ (by omega)
  have hw3 : IntKind.i64.wrap ((n : Int) + 1 - (i : Int)) = (n : Int) + 1 - (i : Int) := IntWalk.i64_in _ (by omega)
  have hb1 : (0 : Int) ≤ (i : Int) + 1 := by omega
  have hin : i ≤ n := by omega
  have htn : ((i : Int) + 1).toNat = i + 1 := by omega
  have hb3 : (i : Int) ≤ (n : Int) := by omega
  have HW1 := Lib.hid hW1
  have HRAT := Lib.hid hRat
  have HR1 := Lib.hid hR1
  have HRS := Lib.hid hRs
  have HN := Lib.hid hN
  have HLM := Lib.hid hlm
  have HCB := Lib.hid hcpB
  have HCA := Lib.hid hcpA
  have HRZ := Lib.hid hrz
  clear hkk hik hold hROW hG hRs hRat hR1 hN hNf hOb hOv hcpA hcpB hrz hown hg hv hcl hvs hi0 hz0 hz1 hz2' hsz hdl h1c hcs hlm hW1 hln
  have hW1s : W1.heap.size = w.heap.size + 1 := by rw [HW1.out]; simp
  have hA1 := HCA.out W1 (fun _ => rfl) (fun _ => rfl) 3 (G - i)
  go_enter Try.func85, Try.ntmps85
  go_wp2_with (first
    | (at_builtin; refine Lib.wpList_append_run _ rfl _ _ _ _ rfl _ _ rfl rfl _ _ (HRZ.out _) ?_)
    | simp only [hA1])
  clear hA1
  refine wp_region_Tw [0, 1, 2, 3, 4, 5, 6, 7] [] (.lp 0 (.lp 1 (.lp 2 (.lp 3 (.lp 4 (.lp 5 (.lp 6 (.lp 7 (.hv 8 (.done)))))))))) (by kernel_rfl) (by kernel_rfl) ?_
  (repeat (first | (refine T_lp rfl (fun K hK => ?_); go_simp; refine hK _ ?_; clear hK K) | (refine T_ls rfl rfl (fun K hK => ?_); go_simp; refine hK _ ?_; clear hK K)))
  refine T_hv rfl (by kernel_rfl) (fun K hK => ?_)
  refine step_copy rfl (.tmp 50) (.tmp 53) 53 53 rfl (.slice (some ⟨w.heap.size, i + 1, none⟩) (n + 1 - (i + 1)) (G - (i + 1))) (.slice (some ⟨b, i, none⟩) (n - i) (c - i)) ?_ ?_ (HCB.out (W1.setCells w.heap.size i [I x]).drew (fun _ => rfl) (fun _ => rfl) _ _ _) ?_
  · simp [Act.eval]
  · simp [Act.eval]
  · (go_simp; refine hK _ _ ?_; clear hK K)
    refine T_done ?_
    go_wp2
    go_ret
    refine ⟨_, _, rfl, ?_, ?_⟩
    · have hg1 : W1.heap[w.heap.size]? = some (.cells ROW 3 (0, 0)) := by rw [HW1.out]; exact Array.getElem?_push_size
      obtain ⟨cu1, hc1', hs1⟩ := setCells_heap w.heap.size [I x] i W1 ROW _ hg1
      obtain ⟨cu2, hc2', hs2⟩ := setCells_heap w.heap.size ((l.map I).drop i) (i + 1) (W1.setCells w.heap.size i [I x]).drew cu1 _ hc1'
      have hdl : ((l.map I).drop i).length = l.length - i := by simp
      have hll : l.length = n := by have h := HLM.out; simpa using h
      refine own_cells_mk hB hc2' (by have := HRS.out; omega) hGn hGM (by simp [insA_length l x (by omega : i ≤ l.length), hll]) (fun j hj => ?_)
      rw [insA_at l x (by omega : i ≤ l.length) j]
      by_cases h1 : j < i
      · rw [if_pos h1, World.cell?_setCells_out _ _ _ _ _ (fun _ _ => by simp; omega)]
        rw [show ((W1.setCells w.heap.size i [I x]).drew).cell? ⟨w.heap.size, j, none⟩ = (W1.setCells w.heap.size i [I x]).cell? ⟨w.heap.size, j, none⟩ from rfl, World.cell?_setCells_out _ _ _ _ _ (fun _ _ => by simp; omega), HR1.out, HRAT.out j h1]
      · rw [if_neg h1]
        by_cases h2 : j = i
        · subst h2
          rw [if_pos rfl, World.cell?_setCells_out _ _ _ _ _ (fun _ _ => by simp)]
          rw [show ((W1.setCells w.heap.size j [I x]).drew).cell? ⟨w.heap.size, j, none⟩ = (W1.setCells w.heap.size j [I x]).cell? ⟨w.heap.size, j, none⟩ from rfl]
          have h := World.cell?_setCells_in w.heap.size [I x] j W1 (fun t ht => HN.out (j + t) (by simp at ht; omega)) 0 (by simp)
          rw [Nat.add_zero] at h
          rw [h]
          rfl
        · rw [if_neg h2]
          have h := World.cell?_setCells_in w.heap.size ((l.map I).drop i) (i + 1) (W1.setCells w.heap.size i [I x]).drew (fun t ht => isSome_set _ _ _ _ (fun t' ht' => HN.out _ (by simp at ht'; omega)) _ (HN.out _ (by omega))) (j - (i + 1)) (by omega)
          rw [show i + 1 + (j - (i + 1)) = j by omega] at h
          rw [h, List.getElem_drop, List.getElem?_eq_getElem (by simp; omega)]
          congr 2
          omega
    · refine setCells_below hB _ _ _ _ ?_
      refine (setCells_below hB _ _ _ _ ?_).drew
      rw [HW1.out]
      exact (Below.refl _ _).drew.alloc hB _
end Go.Proofs.Ytppahohakiidmaa
