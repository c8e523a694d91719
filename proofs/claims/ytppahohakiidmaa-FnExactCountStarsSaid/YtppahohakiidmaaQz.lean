/- How many digits are 1: the library's sum of bits, byte by byte. -/
import Derived.Test.YtppahohakiidmaaQj
import Derived.Laws.BitsLemmas
import Derived.Laws.Bits64b
namespace Go.Proofs.Ytppahohakiidmaa
open Go.RowKit

def dgF : Nat → Nat → Nat
  | 0, _ => 0
  | f + 1, n => n % 2 + dgF f (n / 2)
theorem dgF_succ (f n : Nat) : dgF (f + 1) n = n % 2 + dgF f (n / 2) := rfl
theorem dgF_split : ∀ (k f u y : Nat), u < 2 ^ k → dgF (k + f) (u + 2 ^ k * y) = dgF k u + dgF f y
  | 0, f, u, y, h => by
    have : u = 0 := by simpa using h
    subst this
    simp [dgF]
  | k + 1, f, u, y, h => by
    have e1 : (u + 2 ^ (k + 1) * y) % 2 = u % 2 := by rw [Nat.pow_succ, Nat.mul_comm (2 ^ k) 2, Nat.mul_assoc]; omega
    have e2 : (u + 2 ^ (k + 1) * y) / 2 = u / 2 + 2 ^ k * y := by rw [Nat.pow_succ, Nat.mul_comm (2 ^ k) 2, Nat.mul_assoc]; omega
    have e3 : u / 2 < 2 ^ k := by rw [Nat.pow_succ] at h; omega
    rw [show k + 1 + f = (k + f) + 1 by omega]
    rw [dgF_succ, dgF_succ, e1, e2, dgF_split k f (u / 2) y e3]
    omega
theorem land_split {u p : Nat} (hu : u < 256) (hp : p < 256) (v q : Nat) : (u + 256 * v) &&& (p + 256 * q) = (u &&& p) + 256 * (v &&& q) := by
  have h1 : ((u + 256 * v) &&& (p + 256 * q)) % 2 ^ 8 = u &&& p := by
    rw [Nat.and_mod_two_pow]
    congr 1 <;> omega
  have h2 : ((u + 256 * v) &&& (p + 256 * q)) / 2 ^ 8 = v &&& q := by
    rw [Nat.and_div_two_pow]
    congr 1 <;> omega
  omega
def s1 (b : Nat) : Nat := (b / 2 &&& 85) + (b &&& 85)
def s2 (c : Nat) : Nat := (c / 4 &&& 51) + (c &&& 51)
theorem byte1 : ∀ b : Fin 256, ∀ t : Fin 2, ((b.val / 2 + 128 * t.val) &&& 85) = (b.val / 2 &&& 85) := by decide +kernel
theorem byte2 : ∀ b : Fin 256, ∀ t : Fin 4, ((b.val / 4 + 64 * t.val) &&& 51) = (b.val / 4 &&& 51) := by decide +kernel
theorem byte3 : ∀ b : Fin 256, ∀ t : Fin 5, s1 b.val < 256 ∧ s2 (s1 b.val) < 256 ∧ s2 (s1 b.val) % 16 < 5 ∧ s2 (s1 b.val) / 16 + 16 * t.val + s2 (s1 b.val) < 256 ∧ ((s2 (s1 b.val) / 16 + 16 * t.val + s2 (s1 b.val)) &&& 15) = dgF 8 b.val ∧ dgF 8 b.val ≤ 8 := by decide +kernel
theorem byte4 : ∀ b : Fin 16, dgF 8 b.val = dgF 4 b.val := by decide +kernel
/-- The first two sums, of three bytes. -/
theorem sum1 {b0 b1 b2 : Nat} (h0 : b0 < 256) (h1 : b1 < 256) (h2 : b2 < 256) :
    ((b0 + 256 * (b1 + 256 * b2)) / 2 &&& 6148914691236517205) + ((b0 + 256 * (b1 + 256 * b2)) &&& 6148914691236517205) = s1 b0 + 256 * (s1 b1 + 256 * s1 b2) := by
  have m0 : 6148914691236517205 = 85 + 256 * (85 + 256 * (85 + 256 * 366503875925)) := by decide
  have e : (b0 + 256 * (b1 + 256 * b2)) / 2 = (b0 / 2 + 128 * (b1 % 2)) + 256 * ((b1 / 2 + 128 * (b2 % 2)) + 256 * ((b2 / 2 + 128 * 0) + 256 * 0)) := by omega
  have e' : b0 + 256 * (b1 + 256 * b2) = b0 + 256 * (b1 + 256 * (b2 + 256 * 0)) := by omega
  rw [e, e', m0]
  rw [land_split (by omega) (by omega), land_split (by omega) (by omega), land_split (by omega) (by omega), land_split (by omega) (by omega), land_split (by omega) (by omega), land_split (by omega) (by omega)]
  rw [byte1 ⟨b0, h0⟩ ⟨b1 % 2, by omega⟩, byte1 ⟨b1, h1⟩ ⟨b2 % 2, by omega⟩, byte1 ⟨b2, h2⟩ ⟨0, by omega⟩]
  simp only [Nat.zero_and]
  unfold s1
  omega
theorem sum2 {b0 b1 b2 : Nat} (h0 : b0 < 256) (h1 : b1 < 256) (h2 : b2 < 256) :
    ((b0 + 256 * (b1 + 256 * b2)) / 4 &&& 3689348814741910323) + ((b0 + 256 * (b1 + 256 * b2)) &&& 3689348814741910323) = s2 b0 + 256 * (s2 b1 + 256 * s2 b2) := by
  have m0 : 3689348814741910323 = 51 + 256 * (51 + 256 * (51 + 256 * 219902325555)) := by decide
  have e : (b0 + 256 * (b1 + 256 * b2)) / 4 = (b0 / 4 + 64 * (b1 % 4)) + 256 * ((b1 / 4 + 64 * (b2 % 4)) + 256 * ((b2 / 4 + 64 * 0) + 256 * 0)) := by omega
  have e' : b0 + 256 * (b1 + 256 * b2) = b0 + 256 * (b1 + 256 * (b2 + 256 * 0)) := by omega
  rw [e, e', m0]
  rw [land_split (by omega) (by omega), land_split (by omega) (by omega), land_split (by omega) (by omega), land_split (by omega) (by omega), land_split (by omega) (by omega), land_split (by omega) (by omega)]
  rw [byte2 ⟨b0, h0⟩ ⟨b1 % 4, by omega⟩, byte2 ⟨b1, h1⟩ ⟨b2 % 4, by omega⟩, byte2 ⟨b2, h2⟩ ⟨0, by omega⟩]
  simp only [Nat.zero_and]
  unfold s2
  omega
theorem sum3 {b0 b1 b2 : Nat} (h0 : b0 < 256) (h1 : b1 < 256) (h2 : b2 < 256) :
    (((s2 (s1 b0) + 256 * (s2 (s1 b1) + 256 * s2 (s1 b2))) / 16 + (s2 (s1 b0) + 256 * (s2 (s1 b1) + 256 * s2 (s1 b2)))) &&& 1085102592571150095) = dgF 8 b0 + 256 * (dgF 8 b1 + 256 * dgF 8 b2) := by
  have m0 : 1085102592571150095 = 15 + 256 * (15 + 256 * (15 + 256 * 64677154575)) := by decide
  obtain ⟨_, p2, p3, _, _, _⟩ := byte3 ⟨b0, h0⟩ ⟨0, by omega⟩
  obtain ⟨_, q2, q3, _, _, _⟩ := byte3 ⟨b1, h1⟩ ⟨0, by omega⟩
  obtain ⟨_, r2, r3, _, _, _⟩ := byte3 ⟨b2, h2⟩ ⟨0, by omega⟩
  obtain ⟨_, _, _, p4, p5, _⟩ := byte3 ⟨b0, h0⟩ ⟨s2 (s1 b1) % 16, q3⟩
  obtain ⟨_, _, _, q4, q5, _⟩ := byte3 ⟨b1, h1⟩ ⟨s2 (s1 b2) % 16, r3⟩
  obtain ⟨_, _, _, r4, r5, _⟩ := byte3 ⟨b2, h2⟩ ⟨0, by omega⟩
  simp only at p2 p3 q2 q3 r2 r3 p4 p5 q4 q5 r4 r5
  generalize s2 (s1 b0) = d0 at *
  generalize s2 (s1 b1) = d1 at *
  generalize s2 (s1 b2) = d2 at *
  have e : (d0 + 256 * (d1 + 256 * d2)) / 16 + (d0 + 256 * (d1 + 256 * d2)) = (d0 / 16 + 16 * (d1 % 16) + d0) + 256 * ((d1 / 16 + 16 * (d2 % 16) + d1) + 256 * ((d2 / 16 + 16 * 0 + d2) + 256 * 0)) := by omega
  rw [e, m0, land_split p4 (by omega), land_split q4 (by omega), land_split r4 (by omega), p5, q5, r5]
  simp only [Nat.zero_and]
  omega
theorem digits3 {b0 b1 b2 : Nat} (h0 : b0 < 256) (h1 : b1 < 256) (h2 : b2 < 16) : dgF 20 (b0 + 256 * (b1 + 256 * b2)) = dgF 8 b0 + dgF 8 b1 + dgF 8 b2 := by
  have e1 := dgF_split 8 12 b0 (b1 + 256 * b2) h0
  have e2 := dgF_split 8 4 b1 b2 h1
  have e3 := byte4 ⟨b2, h2⟩
  simp only at e3
  rw [show (8 : Nat) + 12 = 20 from rfl, show (2 : Nat) ^ 8 = 256 from rfl] at e1
  rw [show (8 : Nat) + 4 = 12 from rfl, show (2 : Nat) ^ 8 = 256 from rfl] at e2
  rw [e1, e2, e3]
  omega

theorem wrap_small (g : Nat) (h : g < 1000000) : IntKind.u64.wrap ((g : Int) + (g : Int) / 4294967296) = (g : Int) := by rw [IntKind.wrap_u64]; omega
theorem div_small (g : Nat) (h : g < 1000000) : (g : Int) / 4294967296 = 0 := by omega
set_option maxRecDepth 100000 in
set_option maxHeartbeats 2000000 in
theorem ones_any (x : Nat) (w : World) (hx : x < 1048576) :
    Calls Try.prog 87 #[.int .u64 (x : Int)] w fun e w' => e = .returned (.int .i64 (dgF 20 x : Nat)) ∧ w' = w := by
  obtain ⟨b0, hb0, b1, hb1, b2, hb2, rfl⟩ : ∃ b0, b0 < 256 ∧ ∃ b1, b1 < 256 ∧ ∃ b2, b2 < 16 ∧ x = b0 + 256 * (b1 + 256 * b2) := ⟨x % 256, by omega, x / 256 % 256, by omega, x / 65536, by omega, by omega⟩
  rw [digits3 hb0 hb1 hb2]
  have s_1 := sum1 hb0 hb1 (show b2 < 256 by omega)
  have p0 := byte3 ⟨b0, hb0⟩ ⟨0, by omega⟩
  have p1 := byte3 ⟨b1, hb1⟩ ⟨0, by omega⟩
  have p2 := byte3 ⟨b2, by omega⟩ ⟨0, by omega⟩
  simp only at p0 p1 p2
  have s_2 := sum2 p0.1 p1.1 p2.1
  have s_3 := sum3 hb0 hb1 (show b2 < 256 by omega)
  have d0 := p0.2.2.2.2.2
  have d1 := p1.2.2.2.2.2
  have d2 := p2.2.2.2.2.2
  have u0 := p0.2.1
  have u1 := p1.2.1
  have u2 := p2.2.1
  have v0 := p0.1
  have v1 := p1.1
  have v2 := p2.1
  clear p0 p1 p2
  generalize hP0 : dgF 8 b0 = P0 at *
  generalize hP1 : dgF 8 b1 = P1 at *
  generalize hP2 : dgF 8 b2 = P2 at *
  obtain ⟨x, hxe⟩ : ∃ x, b0 + 256 * (b1 + 256 * b2) = x := ⟨_, rfl⟩
  rw [hxe] at hx s_1 ⊢
  obtain ⟨C, hC⟩ : ∃ C, s1 b0 + 256 * (s1 b1 + 256 * s1 b2) = C := ⟨_, rfl⟩
  obtain ⟨D, hD⟩ : ∃ D, s2 (s1 b0) + 256 * (s2 (s1 b1) + 256 * s2 (s1 b2)) = D := ⟨_, rfl⟩
  have hCb : C < 16777216 := by omega
  have hDb : D < 16777216 := by omega
  rw [hC] at s_1 s_2
  rw [hD] at s_2 s_3
  clear hC hD hxe hb0 hb1 hb2 u0 u1 u2 v0 v1 v2 hP0 hP1 hP2
  obtain ⟨A, hA⟩ : ∃ A, x / 2 &&& 6148914691236517205 = A := ⟨_, rfl⟩
  obtain ⟨B, hB⟩ : ∃ B, x &&& 6148914691236517205 = B := ⟨_, rfl⟩
  obtain ⟨A2, hA2⟩ : ∃ A, C / 4 &&& 3689348814741910323 = A := ⟨_, rfl⟩
  obtain ⟨B2, hB2⟩ : ∃ B, C &&& 3689348814741910323 = B := ⟨_, rfl⟩
  have f1 : bits .and .u64 ((x : Int) / 2) 6148914691236517205 = (A : Int) := by
    have h := bits_and_u64_nat (x / 2) 6148914691236517205 (by omega) (by omega)
    rw [hA] at h
    exact h
  have f2 : bits .and .u64 (x : Int) 6148914691236517205 = (B : Int) := by
    have h := bits_and_u64_nat x 6148914691236517205 (by omega) (by omega)
    rw [hB] at h
    exact h
  have f4 : bits .and .u64 ((C : Int) / 4) 3689348814741910323 = (A2 : Int) := by
    have h := bits_and_u64_nat (C / 4) 3689348814741910323 (by omega) (by omega)
    rw [hA2] at h
    exact h
  have f5 : bits .and .u64 (C : Int) 3689348814741910323 = (B2 : Int) := by
    have h := bits_and_u64_nat C 3689348814741910323 (by omega) (by omega)
    rw [hB2] at h
    exact h
  have f7 : bits .and .u64 ((D : Int) / 16 + (D : Int)) 1085102592571150095 = ((P0 + 256 * (P1 + 256 * P2) : Nat) : Int) := by
    have h := bits_and_u64_nat (D / 16 + D) 1085102592571150095 (by omega) (by omega)
    rw [s_3] at h
    exact h
  rw [hA, hB] at s_1
  rw [hA2, hB2] at s_2
  have f3 : (A : Int) + (B : Int) = (C : Int) := by omega
  have f6 : (A2 : Int) + (B2 : Int) = (D : Int) := by omega
  have w1 : IntKind.u64.wrap (C : Int) = (C : Int) := by rw [IntKind.wrap_u64]; omega
  have w2 : IntKind.u64.wrap (D : Int) = (D : Int) := by rw [IntKind.wrap_u64]; omega
  have w3 : IntKind.u64.wrap ((D : Int) / 16 + (D : Int)) = (D : Int) / 16 + (D : Int) := by rw [IntKind.wrap_u64]; omega
  obtain ⟨E, hE⟩ : ∃ E, P0 + 256 * (P1 + 256 * P2) = E := ⟨_, rfl⟩
  rw [hE] at f7
  have w4 : IntKind.u64.wrap ((E : Int) + (E : Int) / 256) = (E : Int) + (E : Int) / 256 := by rw [IntKind.wrap_u64]; omega
  obtain ⟨F, hF⟩ : ∃ F, E + E / 256 = F := ⟨_, rfl⟩
  have f8 : (E : Int) + (E : Int) / 256 = (F : Int) := by omega
  have w5 : IntKind.u64.wrap ((F : Int) + (F : Int) / 65536) = (F : Int) + (F : Int) / 65536 := by rw [IntKind.wrap_u64]; omega
  obtain ⟨G, hG⟩ : ∃ G, F + F / 65536 = G := ⟨_, rfl⟩
  have f9 : (F : Int) + (F : Int) / 65536 = (G : Int) := by omega
  have k1 : E / 256 = P1 + 256 * P2 := by omega
  have k2 : F = (P0 + P1) + 256 * ((P1 + P2) + 256 * P2) := by omega
  have k3 : F / 65536 = P2 := by omega
  have k4 : G = (P0 + P1 + P2) + 256 * ((P1 + P2) + 256 * P2) := by omega
  have hGb : G < 1000000 := by omega
  have w6 := wrap_small G hGb
  have hG4 := div_small G hGb
  have f10 : bits .and .i64 (G : Int) 127 = ((P0 + P1 + P2 : Nat) : Int) := by
    have h := (bits_nat .i64 63 (by decide) (fun n h0 h1 => IntWalk.i64_in _ (by omega)) G 127 (by omega) (by decide)).1
    have e : G &&& 127 = P0 + P1 + P2 := by
      have := Nat.and_two_pow_sub_one_eq_mod G 7
      rw [show (2 : Nat) ^ 7 - 1 = 127 from rfl, show (2 : Nat) ^ 7 = 128 from rfl] at this
      rw [this, k4]
      omega
    rw [e] at h
    exact h
  clear s_1 s_2 s_3 hA hB hA2 hB2 hF hG hE k1 k2 k3 k4
  go_enter Try.func87, Try.ntmps87
  go_wp2
  go_ret
  exact ⟨by simp, rfl⟩
theorem onesCount_any (x : Nat) (w : World) (hx : x < 1048576) :
    Calls Try.prog 69 #[.int .u64 (x : Int)] w fun e w' => e = .returned (.int .i64 (dgF 20 x : Nat)) ∧ w' = w := by
  have H := Lib.hid (ones_any x w hx)
  go_enter Try.func69, Try.ntmps69
  go_wp2_with (go_at_call 87; refine H.out.mono ?_; rintro e w' ⟨rfl, rfl⟩)
  go_ret
  exact ⟨rfl, rfl⟩

theorem dgF_zero : ∀ f, dgF f 0 = 0
  | 0 => rfl
  | f + 1 => by rw [dgF_succ, Nat.zero_div, dgF_zero f]
theorem dgF_le : ∀ f n, dgF f n ≤ f
  | 0, _ => Nat.le_refl _
  | f + 1, n => by rw [dgF_succ]; have := dgF_le f (n / 2); omega
def dgN (n : Int) : Int := if isNum n then (dgF 20 n.toNat : Nat) else 0
theorem dgN_true {n : Int} (h : isNum n = true) : dgN n = (dgF 20 n.toNat : Nat) := by unfold dgN; rw [if_pos h]
theorem dgN_false {n : Int} (h : isNum n = false) : dgN n = 0 := by unfold dgN; rw [h]; rfl

end Go.Proofs.Ytppahohakiidmaa
