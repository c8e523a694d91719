/- Joined: Mi Rp Na Rm Rr. -/
import Derived.Test.YtodjnafalbbmjaaP0
import Derived.Maps.Own
import Derived.Maps.Views
import Derived.StringKeys
import Derived.Test.YtodjnafalbbmjaaP5
import Derived.Test.YtodjnafalbbmjaaP2
import Derived.Deep.DeepCutAuto
import Derived.Deep.Cut
import Derived.Deep.CutRange
/- The methods by their names: the map that the program makes. -/
namespace Go.Proofs.Ytodjnafalbbmjaa
open Go.RowKit
open Go.Maps (Keyed)

/-- How a method reads, as data: its type and its cells. -/
def mR (v : Value) : Option (DataW Unit × List MemPlace) :=
  match v with
  | .nilIface => some (.agg [], [])
  | .iface t (.agg ⟨[]⟩) => some (.agg [.lit (.int .i64 t)], [])
  | .iface t (.agg ⟨[.int .i64 k]⟩) => some (.agg [.lit (.int .i64 t), .lit (.int .i64 k)], [])
  | _ => none
theorem mR_one {v : Value} {t : Nat} {ps : List MemPlace} (h : mR v = some (.agg [.lit (.int .i64 t)], ps)) : v = .iface t (.agg #[]) := by
  unfold mR at h
  split at h <;> simp_all
  exact Int.ofNat.inj h.1
theorem mR_two {v : Value} {t : Nat} {k : Int} {ps : List MemPlace} (h : mR v = some (.agg [.lit (.int .i64 t), .lit (.int .i64 k)], ps)) : v = .iface t (.agg #[.int .i64 k]) := by
  unfold mR at h
  split at h <;> simp_all
  exact Int.ofNat.inj h.1.1

theorem wpList_insert_own {H : Type} {P : Program} (w : World) {ops : Array Oper} {rest : List Oper} {o : Oper} {a : Act} {Q : Exit → Act → World → Prop}
    (hg : o.guard = none) (m x v : Operand) (t : TypeId) (hop : o.op = Op.insert t m x v)
    (k e : TypeId) (K : Keyed P k) (ht : P.underlying t = some (.map k e)) (R : Value → Option (DataW H × List MemPlace)) (b n : Nat) (D : DataW H)
    (hm : a.eval m = .map (some b)) (hown : w.ownsMap P k R b n D) (hn : n < maxLen) (key val : Value) (kl : Lit) (hx : a.eval x = key) (hv : a.eval v = val) (hkey : keyOf P k key = some kl)
    (d : DataW H) (ps : List MemPlace) (hval : R val = some (d, ps))
    (hK : ∀ w', w'.ownsMap P k R b (n + 1) (D.put kl d) → w.grownBy w' (some b) → wpList P ops Q rest (a.put o.dst undef) w') :
    wpList P ops Q (o :: rest) a w := by
  refine wpList_plain hg fun K' hK' => ?_
  obtain ⟨w', hrun, r1, r2⟩ := hown.update K ht hn hkey hval
  unfold Oper.wp
  simp [execOp, hop, hm, hx, hv, hrun, Result.andThen]
  exact hK' _ _ (hK w' r1 r2)

def mL (l : List UInt8) : Lit := .string l
def m1 (t : Nat) : DataW Unit := .agg [.lit (.int .i64 t)]
def m2 (t : Nat) (k : Int) : DataW Unit := .agg [.lit (.int .i64 t), .lit (.int .i64 k)]
def mD : DataW Unit := (((((((DataW.map []).put (.string [98, 105, 110, 97, 114, 121]) (m2 52 1)).put (.string [114, 105, 103, 104, 116]) (m1 82)).put (.string [119, 105, 110, 100, 111, 119, 32, 50]) (m2 52 2)).put (.string [119, 105, 110, 100, 111, 119, 32, 51]) (m2 52 3)).put (.string [115, 108, 105, 100, 105, 110, 103, 32, 50]) (m2 53 2)).put (.string [115, 108, 105, 100, 105, 110, 103, 32, 51]) (m2 53 3)).put (.string [102, 97, 99, 116, 111, 114]) (m1 83)
theorem mKey : Keyed Try.prog 9 := Maps.string_keyed Try.underlying9
theorem mKeyOf (s : ByteArray) (hs : s.size ≤ maxLen) : keyOf Try.prog 9 (.string s) = some (.string s.data.toList) := WideMaps.keyOf_string_mk Try.underlying9 hs
theorem own_grown {w w1 w2 : World} {B b : Nat} (h : Below B w w1) (hB : B ≤ w1.heap.size) (hb : B ≤ b) (hg : w1.grownBy w2 (some b)) : Below B w w2 :=
  h.grown hg hB (fun k e => by cases e; exact hb)

set_option maxRecDepth 100000 in
set_option maxHeartbeats 2000000 in
theorem methods_any (w : World) : Calls Try.prog 64 #[] w fun e w' => ∃ b, e = .returned (.map (some b)) ∧ w'.ownsMap Try.prog 9 mR b 7 mD ∧ Below w.heap.size w w' := by
  have hmm := @run_makeMap Try.prog
  have O0 := World.ownsMap_made w Try.prog 9 mR
  have B0 : Below w.heap.size w (w.alloc (.map #[] 0)) := (Below.refl _ _).alloc (Nat.le_refl _) _
  go_enter Try.func64, Try.ntmps64
  go_wp2_with (refine wpList_insert_own _ rfl _ _ _ 64 rfl 9 63 mKey Try.underlying64 mR w.heap.size _ _ rfl (by assumption) (by decide) _ _ _ rfl rfl (mKeyOf _ (by decide)) _ [] rfl ?_; intro w1 hown1 hgrow1; have B0 := own_grown B0 B0.size (Nat.le_refl _) hgrow1)
  go_ret
  exact ⟨w.heap.size, rfl, by assumption, by assumption⟩
end Go.Proofs.Ytodjnafalbbmjaa
/- The plan by digits from the lowest one on: as data, and by the method of the program. -/
namespace Go.Proofs.Ytodjnafalbbmjaa
open Go.RowKit

def rSq (s : (List (Int × Int) × Int) × Int) : (List (Int × Int) × Int) × Int := ((s.1.1 ++ [stI s.2 s.2], s.1.2), 1 + (s.1.1.length : Int))
def rDg (n j : Nat) (s : (List (Int × Int) × Int) × Int) : (List (Int × Int) × Int) × Int := if bitB n j then (onS 1 s.1 s.2, s.2) else s
def rP (n : Nat) : Nat → (List (Int × Int) × Int) × Int
  | 0 => (([], -1), 0)
  | j + 1 => rDg n j (if 0 < j then rSq (rP n j) else rP n j)
def rQ (n j : Nat) : (List (Int × Int) × Int) × Int := if 0 < j then rSq (rP n j) else rP n j
theorem rP_succ (n j : Nat) : rP n (j + 1) = rDg n j (rQ n j) := rfl
theorem rDg_len (n j : Nat) (s : (List (Int × Int) × Int) × Int) : (rDg n j s).1.1.length ≤ s.1.1.length + 1 := by
  unfold rDg
  split
  · exact onS_len 1 s.1 s.2
  · omega
theorem rSq_len (s : (List (Int × Int) × Int) × Int) : (rSq s).1.1.length = s.1.1.length + 1 := by simp [rSq]
theorem rP_len (n j : Nat) : (rP n j).1.1.length ≤ 2 * j := by
  induction j with
  | zero => exact Nat.le_refl _
  | succ j ih =>
    show (rDg n j (if 0 < j then rSq (rP n j) else rP n j)).1.1.length ≤ _
    have h1 := rDg_len n j (if 0 < j then rSq (rP n j) else rP n j)
    have h2 := rSq_len (rP n j)
    split at h1 <;> split <;> omega
theorem rQ_len (n j : Nat) : (rQ n j).1.1.length ≤ 2 * j + 1 := by
  unfold rQ
  have h1 := rP_len n j
  have h2 := rSq_len (rP n j)
  split <;> omega
/-- A result that is there, or none, and a square. -/
def rV (s : (List (Int × Int) × Int) × Int) : Prop := vd s.1 ∧ 0 ≤ s.2
theorem rV_sq {s : (List (Int × Int) × Int) × Int} (h : rV s) : rV (rSq s) := ⟨h.1, by show (0 : Int) ≤ 1 + (s.1.1.length : Int); omega⟩
theorem rV_dg {n j : Nat} {s : (List (Int × Int) × Int) × Int} (h : rV s) : rV (rDg n j s) := by
  unfold rDg
  split
  · exact ⟨vd_on (by omega) h.2 _, h.2⟩
  · exact h
theorem rV_P (n j : Nat) : rV (rP n j) := by
  induction j with
  | zero => exact ⟨.inl rfl, Int.le_refl 0⟩
  | succ j ih =>
    refine rV_dg ?_
    split
    · exact rV_sq ih
    · exact ih
theorem rV_Q (n j : Nat) : rV (rQ n j) := by
  unfold rQ
  split
  · exact rV_sq (rV_P n j)
  · exact rV_P n j
def rgP (n : Nat) : Pl := ⟨1, (rP n (Lib.bitLen n)).1.1, [(rP n (Lib.bitLen n)).1.2]⟩
theorem rgP_len {n : Nat} (hn : n ≤ 1000000) : (rgP n).s.length ≤ 1000 ∧ (rgP n).o.length ≤ 1000 := by
  refine ⟨?_, by simp [rgP]⟩
  have h1 := rP_len n (Lib.bitLen n)
  have h2 := bl_bd hn
  show (rP n (Lib.bitLen n)).1.1.length ≤ 1000
  omega

set_option maxRecDepth 100000 in
set_option maxHeartbeats 2000000 in
theorem rightFor_any (n : Nat) (w : World) (hn1 : 1 ≤ n) (hn : n ≤ 1000000) :
    Calls Try.prog 130 #[.agg #[], .int .i64 (n : Int)] w fun e w' =>
      ∃ R1 R2 v1 v2, e = .returned (.tuple #[.agg #[.int .i64 (mkR (rgP n)).n, .slice R1 (mkR (rgP n)).s.length v1, .slice R2 (mkR (rgP n)).o.length v2], .bool (good (rgP n))]) ∧ OwP w' w.heap.size R1 R2 v1 v2 (mkR (rgP n)) ∧ Below w.heap.size w w' := by
  obtain ⟨L, hL⟩ : ∃ L, Lib.bitLen n = L := ⟨_, rfl⟩
  have hL20 : L ≤ 20 := by rw [← hL]; exact bl_bd hn
  have EL := Lib.hid (show Lib.bitLen ((n : Int)).toNat = L from hL)
  have EP := Lib.hid (show rgP n = ⟨1, (rP n L).1.1, [(rP n L).1.2]⟩ by unfold rgP; rw [hL])
  clear hL
  go_enter Try.func130, Try.ntmps130
  go_wp2_with fail
  go_at_call 124
  generalize hw1 : World.alloc (World.alloc w _) _ = w1
  obtain ⟨q0, xs, xb⟩ := me_box hw1
  clear hw1
  generalize hw2 : World.alloc w1 _ = w2
  obtain ⟨mk2, b2⟩ := mk_new (B := w1.heap.size) hw2
  rw [xs] at mk2 b2
  clear hw2
  have Q0 := Lib.hid q0
  have XB := Lib.hid xb
  have XS := Lib.hid xs
  have MK := Lib.hid mk2
  have B2 := Lib.hid b2
  clear q0 xs xb mk2 b2
  refine (bitsLen_any (n : Int) _ (by omega) (by omega)).mono ?_
  rintro e w' ⟨rfl, hww⟩
  subst w'
  rw [EL.out]
  go_wp2
  go_loopw [7, 8, 14] (fun sv vv iv wr => ∃ j : Nat, j ≤ L ∧ iv = .int .i64 j ∧ sv = .int .i64 (rP n j).2 ∧ vv = .int .i64 (rP n j).1.2 ∧ MkS wr (w.heap.size + 1 + 1) (w.heap.size + 1 + 1) 1 (rP n j).1.1 ∧ Below (w.heap.size + 1 + 1) w1 wr) (fun _ _ iv _ => L - (intOf iv).toNat)
  case atStart => exact ⟨0, by omega, rfl, rfl, rfl, MK.out, B2.out⟩
  case round =>
    obtain ⟨j, hj, rfl, rfl, rfl, hmk, hbel⟩ := hrel
    have MKR := Lib.hid hmk
    have BEL := Lib.hid hbel
    clear hmk hbel
    by_cases hlt : j < L
    case neg =>
      have e : j = L := by omega
      subst e
      have hxl := rP_len n j
      obtain ⟨x, hx⟩ : ∃ x, rP n j = x := ⟨_, rfl⟩
      rw [hx] at MKR EP hxl
      rw [hx]
      clear hx
      go_wp2_with fail
      go_at_call 133
      generalize hw4 : World.alloc wr _ = w4
      obtain ⟨ho4, hb4⟩ := one_new hw4
      clear hw4
      refine (makerPlan_any (w.heap.size + 1 + 1) (w.heap.size + 1 + 1) _ _ ⟨1, x.1.1, [x.1.2]⟩ w4 (Nat.le_refl _) (MKR.out.below hb4) (own_base ho4 (by have := BEL.out.size; have := XS.out; omega)) (by show x.1.1.length ≤ 1000; omega) (by simp)).mono ?_
      rintro e w5 ⟨R1, R2, v1, v2, rfl, ho5, hb5⟩
      rw [← EP.out]
      rw [← EP.out] at ho5
      have hb15 : Below (w.heap.size + 1 + 1) w1 w5 := BEL.out.trans ((hb4.mono (by have := BEL.out.size; have := XS.out; omega)).trans (hb5.mono (by have := hb4.size; have := BEL.out.size; have := XS.out; omega)))
      have q5 := (hb15.block (w.heap.size + 1) (by have := XS.out; omega)).trans Q0.out
      obtain ⟨t0, t1, t2, g0, g1, g2⟩ := cells3 q5
      have B5 := Lib.hid (XB.out.trans (hb15.mono (by have := XS.out; omega)))
      have O5 := Lib.hid ho5
      have Q5 := Lib.hid q5
      clear hb15 ho5 q5
      go_wp2
      refine bodyPost_ret (v := .tuple #[.agg #[.int .i64 (mkR (rgP n)).n, .slice R1 (mkR (rgP n)).s.length v1, .slice R2 (mkR (rgP n)).o.length v2], .bool (good (rgP n))]) (by simp [results, Try.results130, go_sem, t0, t1, t2]) rfl ⟨R1, R2, v1, v2, rfl, ?_, ?_⟩
      · refine owP_of3 (own_base O5.out.1 (by have := XS.out; omega)) (own_base O5.out.2 (by have := XS.out; omega)) Q5.out (by decide) (by decide) rfl rfl _ _ _
      · exact ((B5.out.setCell (by simp) _).setCell (by simp) _).setCell (by simp) _
    case pos =>
    have ij : (j : Int) < (L : Int) := by omega
    have hxl := rP_len n j
    have hql := rQ_len n j
    obtain ⟨y, hy⟩ : ∃ y, rQ n j = y := ⟨_, rfl⟩
    have EZ := Lib.hid (show rP n (j + 1) = rDg n j y by rw [rP_succ, hy])
    obtain ⟨x, hx⟩ : ∃ x, rP n j = x := ⟨_, rfl⟩
    have EY := Lib.hid (show y = if 0 < j then rSq x else x by rw [← hy, ← hx]; rfl)
    rw [hy] at hql
    rw [hx] at MKR hxl
    rw [hx]
    clear hx hy
    by_cases hj0 : 0 < j
    · have ij0 : (0 : Int) < (j : Int) := by omega
      have EY2 := Lib.hid (show y = ((x.1.1 ++ [stI x.2 x.2], x.1.2), 1 + (x.1.1.length : Int)) by rw [EY.out, if_pos hj0]; rfl)
      have hS := makerSquare_any (w.heap.size + 1 + 1) (w.heap.size + 1 + 1) 1 (x.1.1, x.2) 1 wr (Nat.le_refl _) MKR.out (by show x.1.1.length + 1 ≤ 1000; omega) (by omega) (by omega)
      have HS := Lib.hid hS
      clear hS
      cases hbit : bitB n j with
      | true =>
        have HB := Lib.hid hbit
        have ED := Lib.hid (show rP n (j + 1) = (onS 1 y.1 y.2, y.2) by rw [EZ.out]; unfold rDg; rw [if_pos hbit])
        have hl3 : y.1.1.length ≤ 1000 := by omega
        clear hbit
        go_wp2_with (first
          | (go_at_call 106; refine HS.out.mono ?_; rintro e w3 ⟨rfl, hm3, hb3, _⟩; have M3 := Lib.hid (show MkS w3 (w.heap.size + 1 + 1) (w.heap.size + 1 + 1) 1 y.1.1 by rw [EY2.out]; exact hm3); have V3 := Lib.hid (show 1 + (x.1.1.length : Int) = y.2 by rw [EY2.out]); have V4 := Lib.hid (show x.1.2 = y.1.2 by rw [EY2.out]); rw [show (sqN 1 (x.1.1, x.2) 1).2 = y.2 from V3.out, V4.out])
          | (go_at_call 131; refine (hasDigit_any n j _ (by omega)).mono ?_; rw [HB.out]; rintro e' w' ⟨rfl, hww⟩; subst w')
          | (go_at_call 132; refine (makerOnto_any (w.heap.size + 1 + 1) (w.heap.size + 1 + 1) 1 y.1 y.2 _ (Nat.le_refl _) M3.out hl3 (by omega) (by omega)).mono ?_; rintro e' w4 ⟨rfl, hm4, hb4, _⟩))
        go_roundw
        case rel => exact ⟨j + 1, by omega, by go_num, by rw [ED.out], by rw [ED.out], by rw [ED.out]; exact hm4, BEL.out.trans (hb3.trans hb4)⟩
        case measure => simp [intOf]; omega
      | false =>
        have HB := Lib.hid hbit
        have ED := Lib.hid (show rP n (j + 1) = y by rw [EZ.out]; unfold rDg; rw [if_neg (by rw [hbit]; decide)])
        clear hbit
        go_wp2_with (first
          | (go_at_call 106; refine HS.out.mono ?_; rintro e w3 ⟨rfl, hm3, hb3, _⟩; have M3 := Lib.hid (show MkS w3 (w.heap.size + 1 + 1) (w.heap.size + 1 + 1) 1 y.1.1 by rw [EY2.out]; exact hm3); have V3 := Lib.hid (show 1 + (x.1.1.length : Int) = y.2 by rw [EY2.out]); have V4 := Lib.hid (show x.1.2 = y.1.2 by rw [EY2.out]); rw [show (sqN 1 (x.1.1, x.2) 1).2 = y.2 from V3.out, V4.out])
          | (go_at_call 131; refine (hasDigit_any n j _ (by omega)).mono ?_; rw [HB.out]; rintro e' w' ⟨rfl, hww⟩; subst w'))
        go_roundw
        case rel => exact ⟨j + 1, by omega, by go_num, by rw [ED.out], by rw [ED.out], by rw [ED.out]; exact M3.out, BEL.out.trans hb3⟩
        case measure => simp [intOf]; omega
    · have ij0 : ¬ (0 : Int) < (j : Int) := by omega
      have EY2 : y = x := by rw [EY.out, if_neg hj0]
      clear EY
      subst EY2
      cases hbit : bitB n j with
      | true =>
        have HB := Lib.hid hbit
        have ED := Lib.hid (show rP n (j + 1) = (onS 1 y.1 y.2, y.2) by rw [EZ.out]; unfold rDg; rw [if_pos hbit])
        have hl3 : y.1.1.length ≤ 1000 := by omega
        clear hbit
        go_wp2_with (first
          | (go_at_call 131; refine (hasDigit_any n j _ (by omega)).mono ?_; rw [HB.out]; rintro e' w' ⟨rfl, hww⟩; subst w')
          | (go_at_call 132; refine (makerOnto_any (w.heap.size + 1 + 1) (w.heap.size + 1 + 1) 1 y.1 y.2 _ (Nat.le_refl _) MKR.out hl3 (by omega) (by omega)).mono ?_; rintro e' w4 ⟨rfl, hm4, hb4, _⟩))
        go_roundw
        case rel => exact ⟨j + 1, by omega, by go_num, by rw [ED.out], by rw [ED.out], by rw [ED.out]; exact hm4, BEL.out.trans hb4⟩
        case measure => simp [intOf]; omega
      | false =>
        have HB := Lib.hid hbit
        have ED := Lib.hid (show rP n (j + 1) = y by rw [EZ.out]; unfold rDg; rw [if_neg (by rw [hbit]; decide)])
        clear hbit
        go_wp2_with (go_at_call 131; refine (hasDigit_any n j _ (by omega)).mono ?_; rw [HB.out]; rintro e' w' ⟨rfl, hww⟩; subst w')
        go_roundw
        case rel => exact ⟨j + 1, by omega, by go_num, by rw [ED.out], by rw [ED.out], by rw [ED.out]; exact MKR.out, BEL.out⟩
        case measure => simp [intOf]; omega
end Go.Proofs.Ytodjnafalbbmjaa
/- Digits to a base; least factors. -/
namespace Go.Proofs.Ytodjnafalbbmjaa
open Go.RowKit

def lenD (b : Nat) : Nat → Nat → Nat
  | 0, _ => 0
  | f + 1, n => if n = 0 then 0 else lenD b f (n / b) + 1
def digL (b n k : Nat) : List Int := (List.range k).map fun i => ((n / b ^ i % b : Nat) : Int)
/-- The digits of n to the base b, the lowest one first. -/
def dgs (b n : Nat) : List Int := digL b n (lenD b 20 n)
theorem lenD_le (b : Nat) : ∀ f n, lenD b f n ≤ f := by
  intro f
  induction f with
  | zero => intro n; exact Nat.le_refl _
  | succ f ih =>
    intro n
    unfold lenD
    split
    · omega
    · have := ih (n / b); omega
theorem lenD_pos (b : Nat) : ∀ f n k, k < lenD b f n → 0 < n / b ^ k := by
  intro f
  induction f with
  | zero => intro n k h; exact absurd h (by simp [lenD])
  | succ f ih =>
    intro n k h
    unfold lenD at h
    split at h
    · omega
    · cases k with
      | zero => simp; omega
      | succ k =>
        have := ih (n / b) k (by omega)
        rwa [Nat.div_div_eq_div_mul, Nat.mul_comm, ← Nat.pow_succ] at this
theorem lenD_end {b : Nat} (hb : 2 ≤ b) : ∀ f n, n < 2 ^ f → n / b ^ lenD b f n = 0 := by
  intro f
  induction f with
  | zero => intro n h; have : n = 0 := by simpa using h
            subst this; simp
  | succ f ih =>
    intro n h
    unfold lenD
    split
    · rename_i h0; subst h0; simp
    · have h1 : n / b < 2 ^ f := by
        have h2 : n / b ≤ n / 2 := Nat.div_le_div_left hb (by omega)
        have : n / 2 < 2 ^ f := by rw [Nat.div_lt_iff_lt_mul (by omega)]; rwa [Nat.pow_succ] at h
        omega
      have := ih (n / b) h1
      rwa [Nat.div_div_eq_div_mul, Nat.mul_comm, ← Nat.pow_succ] at this
theorem digL_len (b n k : Nat) : (digL b n k).length = k := by simp [digL]
theorem digL_succ (b n k : Nat) : digL b n (k + 1) = digL b n k ++ [((n / b ^ k % b : Nat) : Int)] := by simp [digL, List.range_succ]
theorem dgs_len (b n : Nat) : (dgs b n).length ≤ 20 := by unfold dgs; rw [digL_len]; exact lenD_le b 20 n
theorem div_step (b n k : Nat) : n / b ^ k / b = n / b ^ (k + 1) := by rw [Nat.div_div_eq_div_mul, ← Nat.pow_succ]
theorem dgs_end {b n k : Nat} (hk : k ≤ lenD b 20 n) (h : n / b ^ k = 0) : digL b n k = dgs b n := by
  unfold dgs
  rcases Nat.lt_or_eq_of_le hk with h' | h'
  · have := lenD_pos b 20 n k h'; omega
  · rw [h']
theorem dgs_more {b n k : Nat} (hb : 2 ≤ b) (hn : n ≤ 1000000) (hk : k ≤ lenD b 20 n) (h : 0 < n / b ^ k) : k + 1 ≤ lenD b 20 n := by
  rcases Nat.lt_or_eq_of_le hk with h' | h'
  · omega
  · have := lenD_end hb 20 n (by omega)
    rw [h'] at h
    omega

set_option maxRecDepth 100000 in
set_option maxHeartbeats 1000000 in
theorem meDigits_any (b n : Nat) (w : World) (hb2 : 2 ≤ b) (hb64 : b ≤ 64) (hn : n ≤ 1000000) :
    Calls Try.prog 41 #[.int .i64 (n : Int), .int .i64 (b : Int)] w fun e w' => ∃ A c, e = .returned (.slice A (dgs b n).length c) ∧ OwI w' w.heap.size (.slice A (dgs b n).length c) (dgs b n) ∧ Below w.heap.size w w' := by
  have hb0 : ((b : Int) == 0) = false := by simp; omega
  go_enter Try.func41, Try.ntmps41
  go_wp2
  go_loopw [0, 5] (fun nv ov wr => ∃ (k : Nat) (A1 : Option Addr) (c1 : Nat), k ≤ lenD b 20 n ∧ nv = .int .i64 ((n / b ^ k : Nat) : Int) ∧ ov = .slice A1 k c1 ∧ OwI wr w.heap.size ov (digL b n k) ∧ Below w.heap.size w wr) (fun nv _ _ => (intOf nv).toNat)
  case atStart => exact ⟨0, none, 0, by omega, by simp, rfl, OwI.nil _ _, Below.refl _ _⟩
  case round =>
    obtain ⟨k, A1, c1, hk, rfl, rfl, hown, hbel⟩ := hrel
    have OWN := Lib.hid hown
    have BEL := Lib.hid hbel
    have hs := hbel.size
    clear hown hbel
    have hMn : n / b ^ k ≤ n := Nat.div_le_self _ _
    have E1 := Lib.hid (digL_succ b n k)
    have E2 := Lib.hid (div_step b n k)
    have EE := Lib.hid (fun h : n / b ^ k = 0 => dgs_end hk h)
    have EM := Lib.hid (fun h : 0 < n / b ^ k => dgs_more hb2 hn hk h)
    have EL := Lib.hid (digL_len b n k)
    have hk20 := lenD_le b 20 n
    obtain ⟨M, hM⟩ : ∃ M, n / b ^ k = M := ⟨_, rfl⟩
    rw [hM] at hMn E1 E2 EE EM
    rw [hM]
    clear hM
    by_cases hp : 0 < M
    · have ip : (0 : Int) < (M : Int) := by omega
      have hdl : M / b < M := Nat.div_lt_self hp (by omega)
      obtain ⟨Q, hQ⟩ : ∃ Q, M / b = Q := ⟨_, rfl⟩
      rw [hQ] at E2 hdl
      have ew : wrap64 ((M : Int) / (b : Int)) = (Q : Int) := by
        rw [show (M : Int) / (b : Int) = (Q : Int) by rw [← hQ]; push_cast; rfl]
        unfold wrap64; omega
      clear hQ
      go_wp2_with (at_builtin; refine list_step (fun K hK => ?_); refine step_app_int rfl (.tmp 11) (.tmp 15) rfl w.heap.size k _ (digL b n k) rfl (OWN.out.alloc _) EL.out wr.heap.size 1 ((M % b : Nat) : Int) rfl (by simp) (by omega) (by simp; omega) ?_; intro A3 c3 w3 hown3 hg3 hbel3; go_simp; refine hK _ _ ?_; clear hK K)
      go_roundw
      case rel => exact ⟨k + 1, A3, c3, EM.out hp, by rw [ew, ← E2.out], rfl, by rw [E1.out]; exact hown3, (BEL.out.alloc hs _).trans hbel3⟩
      case measure => rw [ew]; simp [intOf]; omega
    · have h0 : M = 0 := by omega
      have ip : ¬ (0 : Int) < (M : Int) := by omega
      have ED := Lib.hid (EE.out h0)
      go_wp2
      go_ret
      exact ⟨A1, c1, by rw [← ED.out, EL.out]; rfl, by rw [← ED.out, EL.out]; exact OWN.out, BEL.out⟩

theorem isBase_any (b : Int) (w : World) : Calls Try.prog 43 #[.int .i64 b] w fun e w' => e = .returned (.bool (inB b 2 64)) ∧ w = w' := by
  by_cases h1 : 2 ≤ b <;> by_cases h2 : b ≤ 64
  all_goals
    go_enter Try.func43, Try.ntmps43
    go_wp2
    go_ret
    exact ⟨ret_bool (by simp [inB, h1, h2]), rfl⟩

def dgB (x b : Int) : Bool := isNum x && inB b 2 64
def dgR (x b : Int) : List Int := if dgB x b then dgs b.toNat x.toNat else []
theorem dgR_le (x b : Int) : (dgR x b).length ≤ 1000 := by
  unfold dgR
  split
  · have := dgs_len b.toNat x.toNat; omega
  · simp
theorem dgR_false {x b : Int} (h : dgB x b = false) : dgR x b = [] := by unfold dgR; rw [h]; rfl
theorem dgR_true {x b : Int} (h : dgB x b = true) : dgR x b = dgs b.toNat x.toNat := by unfold dgR; rw [if_pos h]

set_option maxHeartbeats 1000000 in
theorem specDigits_any (x y : Int) (w : World) :
    Calls Try.prog 13 #[.int .i64 x, .int .i64 y] w fun e w' =>
      ∃ A' c', e = .returned (.tuple #[.slice A' (dgR x y).length c', .bool (dgB x y)]) ∧ OwI w' w.heap.size (.slice A' (dgR x y).length c') (dgR x y) ∧ Below w.heap.size w w' := by
  obtain ⟨g1, h1⟩ : ∃ g, isNum x = g := ⟨_, rfl⟩
  obtain ⟨g2, h2⟩ : ∃ g, inB y 2 64 = g := ⟨_, rfl⟩
  have EB := Lib.hid (show dgB x y = (g1 && g2) by unfold dgB; rw [h1, h2])
  have H1 := Lib.hid h1
  have H2 := Lib.hid h2
  cases g1 with
  | false =>
    have ER := Lib.hid (dgR_false EB.out)
    clear h1 h2
    go_enter Try.func13, Try.ntmps13
    go_wp2_with (go_at_call 39; refine (chNumber_any _ _).mono ?_; rw [H1.out]; rintro e w' ⟨rfl, rfl⟩)
    go_ret2
    exact ⟨none, 0, by rw [ER.out, EB.out]; rfl, by rw [ER.out]; exact OwI.nil _ _, Below.refl _ _⟩
  | true =>
  cases g2 with
  | false =>
    have ER := Lib.hid (dgR_false EB.out)
    clear h1 h2
    go_enter Try.func13, Try.ntmps13
    go_wp2_with (first
      | (go_at_call 39; refine (chNumber_any _ _).mono ?_; rw [H1.out]; rintro e w' ⟨rfl, rfl⟩)
      | (go_at_call 40; refine (l1In_any _ _ _ _).mono ?_; rw [H2.out]; rintro e w' ⟨rfl, rfl⟩))
    go_ret2
    exact ⟨none, 0, by rw [ER.out, EB.out]; rfl, by rw [ER.out]; exact OwI.nil _ _, Below.refl _ _⟩
  | true =>
    have ER := dgR_true EB.out
    have ⟨r1, r2⟩ := isNum_rng h1
    have hy : 2 ≤ y ∧ y ≤ 64 := by simpa [inB] using h2
    obtain ⟨b, rfl⟩ : ∃ b : Nat, y = b := ⟨y.toNat, by omega⟩
    obtain ⟨n, rfl⟩ : ∃ n : Nat, x = n := ⟨x.toNat, by omega⟩
    rw [show ((b : Int)).toNat = b by omega, show ((n : Int)).toNat = n by omega] at ER
    have HD := Lib.hid (meDigits_any b n w (by omega) (by omega) (by omega))
    have HR := Lib.hid ER
    clear h1 h2 ER hy r1 r2
    go_enter Try.func13, Try.ntmps13
    go_wp2_with (first
      | (go_at_call 39; refine (chNumber_any _ _).mono ?_; rw [H1.out]; rintro e w' ⟨rfl, rfl⟩)
      | (go_at_call 40; refine (l1In_any _ _ _ _).mono ?_; rw [H2.out]; rintro e w' ⟨rfl, rfl⟩)
      | (go_at_call 41; refine HD.out.mono ?_; rintro e w2 ⟨A, c, rfl, ho, hb⟩))
    go_ret2
    exact ⟨A, c, by rw [HR.out, EB.out]; rfl, by rw [HR.out]; exact ho, hb⟩

set_option maxRecDepth 100000 in
set_option maxHeartbeats 1000000 in
theorem implDigits_any (x y : Int) (w : World) :
    Calls Try.prog 14 #[.int .i64 x, .int .i64 y] w fun e w' =>
      ∃ A' c', e = .returned (.tuple #[.slice A' (dgR x y).length c', .bool (dgB x y)]) ∧ OwI w' w.heap.size (.slice A' (dgR x y).length c') (dgR x y) ∧ Below w.heap.size w w' := by
  obtain ⟨g1, h1⟩ : ∃ g, isNum x = g := ⟨_, rfl⟩
  obtain ⟨g2, h2⟩ : ∃ g, inB y 2 64 = g := ⟨_, rfl⟩
  have EB := Lib.hid (show dgB x y = (g1 && g2) by unfold dgB; rw [h1, h2])
  have H1 := Lib.hid h1
  have H2 := Lib.hid h2
  cases g1 with
  | false =>
    have ER := Lib.hid (dgR_false EB.out)
    clear h1 h2
    go_enter Try.func14, Try.ntmps14
    go_wp2_with (go_at_call 42; refine (isExponent_any _ _).mono ?_; rw [H1.out]; rintro e w' ⟨rfl, rfl⟩)
    go_ret2
    exact ⟨none, 0, by rw [ER.out, EB.out]; rfl, by rw [ER.out]; exact OwI.nil _ _, Below.refl _ _⟩
  | true =>
  cases g2 with
  | false =>
    have ER := Lib.hid (dgR_false EB.out)
    clear h1 h2
    go_enter Try.func14, Try.ntmps14
    go_wp2_with (first
      | (go_at_call 42; refine (isExponent_any _ _).mono ?_; rw [H1.out]; rintro e w' ⟨rfl, rfl⟩)
      | (go_at_call 43; refine (isBase_any _ _).mono ?_; rw [H2.out]; rintro e w' ⟨rfl, rfl⟩))
    go_ret2
    exact ⟨none, 0, by rw [ER.out, EB.out]; rfl, by rw [ER.out]; exact OwI.nil _ _, Below.refl _ _⟩
  | true =>
    have ER := dgR_true EB.out
    have ⟨r1, r2⟩ := isNum_rng h1
    have hy : 2 ≤ y ∧ y ≤ 64 := by simpa [inB] using h2
    obtain ⟨b, rfl⟩ : ∃ b : Nat, y = b := ⟨y.toNat, by omega⟩
    obtain ⟨n, rfl⟩ : ∃ n : Nat, x = n := ⟨x.toNat, by omega⟩
    rw [show ((b : Int)).toNat = b by omega, show ((n : Int)).toNat = n by omega] at ER
    have HR := Lib.hid ER
    have hb2 : 2 ≤ b := by omega
    have hb64 : b ≤ 64 := by omega
    have hn : n ≤ 1000000 := by omega
    have hb0 : ((b : Int) == 0) = false := by simp; omega
    clear h1 h2 ER hy r1 r2
    go_enter Try.func14, Try.ntmps14
    go_wp2_with (first
      | (go_at_call 42; refine (isExponent_any _ _).mono ?_; rw [H1.out]; rintro e w' ⟨rfl, rfl⟩)
      | (go_at_call 43; refine (isBase_any _ _).mono ?_; rw [H2.out]; rintro e w' ⟨rfl, rfl⟩))
    go_loopw [0, 6] (fun nv ov wr => ∃ (k : Nat) (A1 : Option Addr) (c1 : Nat), k ≤ lenD b 20 n ∧ nv = .int .i64 ((n / b ^ k : Nat) : Int) ∧ ov = .slice A1 k c1 ∧ OwI wr w.heap.size ov (digL b n k) ∧ Below w.heap.size w wr) (fun nv _ _ => (intOf nv).toNat)
    case atStart => exact ⟨0, none, 0, by omega, by simp, rfl, OwI.nil _ _, Below.refl _ _⟩
    case round =>
      obtain ⟨k, A1, c1, hk, rfl, rfl, hown, hbel⟩ := hrel
      have OWN := Lib.hid hown
      have BEL := Lib.hid hbel
      have hs := hbel.size
      clear hown hbel
      have hMn : n / b ^ k ≤ n := Nat.div_le_self _ _
      have E1 := Lib.hid (digL_succ b n k)
      have E2 := Lib.hid (div_step b n k)
      have EE := Lib.hid (fun h : n / b ^ k = 0 => dgs_end hk h)
      have EM := Lib.hid (fun h : 0 < n / b ^ k => dgs_more hb2 hn hk h)
      have EL := Lib.hid (digL_len b n k)
      have hk20 := lenD_le b 20 n
      obtain ⟨M, hM⟩ : ∃ M, n / b ^ k = M := ⟨_, rfl⟩
      rw [hM] at hMn E1 E2 EE EM
      rw [hM]
      clear hM
      by_cases hp : 0 < M
      · have ip : (0 : Int) < (M : Int) := by omega
        have hdl : M / b < M := Nat.div_lt_self hp (by omega)
        obtain ⟨Q, hQ⟩ : ∃ Q, M / b = Q := ⟨_, rfl⟩
        rw [hQ] at E2 hdl
        have ew : wrap64 ((M : Int) / (b : Int)) = (Q : Int) := by
          rw [show (M : Int) / (b : Int) = (Q : Int) by rw [← hQ]; push_cast; rfl]
          unfold wrap64; omega
        clear hQ
        go_wp2_with (at_builtin; refine list_step (fun K hK => ?_); refine step_app_int rfl (.tmp 20) (.tmp 24) rfl w.heap.size k _ (digL b n k) rfl (OWN.out.alloc _) EL.out wr.heap.size 1 ((M % b : Nat) : Int) rfl (by simp) (by omega) (by simp; omega) ?_; intro A3 c3 w3 hown3 hg3 hbel3; go_simp; refine hK _ _ ?_; clear hK K)
        go_roundw
        case rel => exact ⟨k + 1, A3, c3, EM.out hp, by rw [ew, ← E2.out], rfl, by rw [E1.out]; exact hown3, (BEL.out.alloc hs _).trans hbel3⟩
        case measure => rw [ew]; simp [intOf]; omega
      · have h0 : M = 0 := by omega
        have ip : ¬ (0 : Int) < (M : Int) := by omega
        have ED := Lib.hid (EE.out h0)
        go_wp2
        go_ret2
        exact ⟨A1, c1, by rw [HR.out, EB.out, ← ED.out, EL.out]; rfl, by rw [HR.out, ← ED.out, EL.out]; exact OWN.out, BEL.out⟩
end Go.Proofs.Ytodjnafalbbmjaa
/- The plan by digits from the lowest one on, by the model. -/
namespace Go.Proofs.Ytodjnafalbbmjaa
open Go.RowKit

theorem lenD_bits : ∀ f n, lenD 2 f n = Lib.bitLenAux f n := by
  intro f
  induction f with
  | zero => intro n; rfl
  | succ f ih =>
    intro n
    show (if n = 0 then 0 else lenD 2 f (n / 2) + 1) = (if n = 0 then 0 else 1 + Lib.bitLenAux f (n / 2))
    rw [ih]
    split <;> omega
theorem lenD_bl {n : Nat} (hn : n ≤ 1000000) : lenD 2 20 n = Lib.bitLen n := by
  rw [lenD_bits]
  exact (Lib.bitLenAux_fuel 20 n (by omega) 64 (by omega)).symm
theorem dgs_at {n j : Nat} (hn : n ≤ 1000000) (hj : j < Lib.bitLen n) : ∃ h : j < (dgs 2 n).length, (dgs 2 n)[j] = if bitB n j then 1 else 0 := by
  have hl : (dgs 2 n).length = Lib.bitLen n := by unfold dgs; rw [digL_len, lenD_bl hn]
  refine ⟨by omega, ?_⟩
  have e : (dgs 2 n)[j]'(by omega) = ((n / 2 ^ j % 2 : Nat) : Int) := by simp [dgs, digL]
  rw [e]
  unfold bitB
  rcases Nat.mod_two_eq_zero_or_one (n / 2 ^ j) with h | h <;> rw [h] <;> rfl

set_option maxRecDepth 100000 in
set_option maxHeartbeats 4000000 in
theorem meRight_any (n : Nat) (w : World) (hn1 : 1 ≤ n) (hn : n ≤ 1000000) :
    Calls Try.prog 52 #[.int .i64 (n : Int)] w fun e w' =>
      ∃ A1 A2 c1 c2, e = .returned (.agg #[.int .i64 (rgP n).n, .slice A1 (rgP n).s.length c1, .slice A2 (rgP n).o.length c2]) ∧ OwP w' w.heap.size A1 A2 c1 c2 (rgP n) ∧ Below w.heap.size w w' := by
  have HAT := Lib.hid (fun (j : Nat) (h : j < Lib.bitLen n) => dgs_at hn h)
  obtain ⟨L, hL⟩ : ∃ L, Lib.bitLen n = L := ⟨_, rfl⟩
  have hL20 : L ≤ 20 := by rw [← hL]; exact bl_bd hn
  have hL1 : 1 ≤ L := by rw [← hL]; exact bl_more (n := n) (b := 0) hn (by simp; omega)
  have EP := Lib.hid (show rgP n = ⟨1, (rP n L).1.1, [(rP n L).1.2]⟩ by unfold rgP; rw [hL])
  have hdl : (dgs 2 n).length = L := by unfold dgs; rw [digL_len, lenD_bl hn, hL]
  have hD := fun W => meDigits_any 2 n W (by omega) (by omega) hn
  rw [hL] at HAT
  obtain ⟨D, hDD⟩ : ∃ D, dgs 2 n = D := ⟨_, rfl⟩
  rw [hDD] at hD hdl
  have HAT2 := Lib.hid (show ∀ j, j < L → ∃ h : j < D.length, D[j] = if bitB n j then 1 else 0 from fun j h => by
    subst hDD
    exact HAT.out j h)
  rw [hdl] at hD
  have HDG := Lib.hid hD
  have HDL := Lib.hid hdl
  clear hL HAT hdl hD hDD
  go_enter Try.func52, Try.ntmps52
  go_wp2_with fail
  go_at_call 41
  generalize hw1 : World.alloc w _ = w1
  obtain ⟨q0, xs, xb⟩ := zero_box hw1
  clear hw1
  have Q0 := Lib.hid q0
  have XB := Lib.hid xb
  have XS := Lib.hid xs
  clear q0 xs xb
  refine (HDG.out w1).mono ?_
  rintro e w2 ⟨AD, cD, rfl, hod, hbd⟩
  have OWd := Lib.hid (show OwI w2 w1.heap.size (.slice AD D.length cD) D from by rw [HDL.out]; exact hod)
  have HBD := Lib.hid hbd
  clear hod hbd
  go_wp2_with fail
  generalize hw3 : World.alloc w2 _ = w3
  obtain ⟨mk3, b3⟩ := pk_new (B := w2.heap.size) hw3
  clear hw3
  have MK := Lib.hid mk3
  have B3 := Lib.hid b3
  clear mk3 b3
  go_loopw [5, 6, 14] (fun sv vv iv wr => ∃ k : Nat, k ≤ L ∧ iv = .int .i64 k ∧ sv = .int .i64 (if k < L then rQ n k else rP n k).2 ∧ vv = .int .i64 (if k < L then rQ n k else rP n k).1.2 ∧ PkS wr w2.heap.size w2.heap.size 1 (if k < L then rQ n k else rP n k).1.1 ∧ Below w2.heap.size w2 wr) (fun _ _ iv _ => L - (intOf iv).toNat)
  case atStart => exact ⟨0, by omega, rfl, by rw [if_pos (by omega)]; rfl, by rw [if_pos (by omega)]; rfl, by rw [if_pos (by omega)]; exact MK.out, B3.out⟩
  case round =>
    obtain ⟨k, hk, rfl, rfl, rfl, hmk, hbel⟩ := hrel
    have MKR := Lib.hid hmk
    have BEL := Lib.hid hbel
    clear hmk hbel
    by_cases hlt : k < L
    case neg =>
      have e : k = L := by omega
      subst e
      have hxl := rP_len n k
      have ES := Lib.hid (show (if k < k then rQ n k else rP n k) = rP n k from if_neg hlt)
      rw [ES.out] at MKR
      rw [ES.out]
      obtain ⟨x, hx⟩ : ∃ x, rP n k = x := ⟨_, rfl⟩
      rw [hx] at MKR EP hxl
      rw [hx]
      clear hx
      obtain ⟨A4, c4, hblk, hown⟩ := MKR.out
      obtain ⟨y0, y1, y2, _, _, _⟩ := cells3 hblk
      have OWN := Lib.hid hown
      clear hblk hown
      go_wp2_with fail
      go_at_call 63
      refine (meEnd_any w2.heap.size A4 none c4 0 0 1 x.1.2 x.1.1 wr BEL.out.size OWN.out).mono ?_
      rintro e w3 ⟨A5, rfl, hs3, ho3, hb3⟩
      have hb23 : Below w2.heap.size w2 w3 := BEL.out.trans (hb3.mono BEL.out.size)
      have hb13 : Below w1.heap.size w1 w3 := HBD.out.trans (hb23.mono HBD.out.size)
      have q3 := (hb13.block w.heap.size (by have := XS.out; omega)).trans Q0.out
      obtain ⟨t0, t1, t2, g0, g1, g2⟩ := cells3 q3
      have z1 := HBD.out.size
      have z2 := BEL.out.size
      have OS := Lib.hid hs3
      have OO := Lib.hid ho3
      have Q3 := Lib.hid q3
      have B13 := Lib.hid (XB.out.trans (hb13.mono (by have := XS.out; omega)))
      clear hs3 ho3 hb3 hb23 hb13 q3 y0 y1 y2
      go_wp2
      refine bodyPost_ret (v := .agg #[.int .i64 1, .slice A4 x.1.1.length c4, .slice A5 1 1]) (by simp [results, Try.results52, go_sem, t0, t1, t2]) rfl ⟨A4, A5, c4, 1, by rw [EP.out]; rfl, ?_, ?_⟩
      · rw [EP.out]
        exact owP_of3 (own_base OS.out (by have := XS.out; omega)) (own_base OO.out (by have := XS.out; omega)) Q3.out (by decide) (by decide) rfl rfl _ _ _
      · exact ((B13.out.setCell (by simp) _).setCell (by simp) _).setCell (by simp) _
    case pos =>
    have ij : (k : Int) < (L : Int) := by omega
    obtain ⟨hkD, hval⟩ := HAT2.out k hlt
    have hrd := (show OwI wr w1.heap.size (.slice AD D.length cD) D from own_below OWd.out BEL.out).rd.int hkD
    obtain ⟨b2, off2, rfl, hb2, hcell⟩ := hrd
    rw [hval] at hcell
    clear hval
    obtain ⟨y, hy⟩ : ∃ y, rQ n k = y := ⟨_, rfl⟩
    have ES := Lib.hid (show (if k < L then rQ n k else rP n k) = y by rw [if_pos hlt, hy])
    have hyl := rQ_len n k
    have hyv := (rV_Q n k).1
    obtain ⟨z, hz⟩ : ∃ z, rDg n k y = z := ⟨_, rfl⟩
    have hPz : rP n (k + 1) = z := by rw [rP_succ, hy, hz]
    have hzl := rP_len n (k + 1)
    rw [hPz] at hzl
    rw [hy] at hyl hyv
    rw [ES.out]
    rw [ES.out] at MKR
    have HPZ := Lib.hid hPz
    have EQ2 := Lib.hid (show z.2 = y.2 by rw [← hz]; unfold rDg; split <;> rfl)
    unfold rDg at hz
    clear hy hPz
    cases hbit : bitB n k with
    | true =>
      rw [hbit, if_pos rfl] at hcell hz
      clear hbit
      by_cases hv : y.1.2 = -1
      · have hv' : ¬ (0 : Int) ≤ y.1.2 := by omega
        have E1 := Lib.hid (show z.1.1 = y.1.1 by rw [← hz]; unfold onS; rw [if_pos hv])
        have E2 := Lib.hid (show z.1.2 = y.2 by rw [← hz]; unfold onS; rw [if_pos hv])
        clear hz hv hyv
        go_upto_if 24 with fail
        go_cut [6] (fun vv wx => vv = .int .i64 z.1.2 ∧ PkS wx w2.heap.size w2.heap.size 1 z.1.1 ∧ Below w2.heap.size w2 wx)
        case first =>
          go_wp2
          go_meet
          case rel => exact ⟨by rw [E2.out], by rw [E1.out]; exact MKR.out, BEL.out⟩
        case rest =>
          obtain ⟨rfl, hmk, hbel⟩ := hcut
          have MZ := Lib.hid hmk
          have BZ := Lib.hid hbel
          rw [← EQ2.out]
          clear hmk hbel
          by_cases hmore : k + 1 < L
          · have im : (k : Int) < (L : Int) - 1 := by omega
            have EN := Lib.hid (show (if k + 1 < L then rQ n (k + 1) else rP n (k + 1)) = rSq z by rw [if_pos hmore]; unfold rQ; rw [if_pos (by omega), HPZ.out])
            obtain ⟨A6, c6, hblk6, hos6⟩ := MZ.out
            obtain ⟨y0, y1, y2, _, _, _⟩ := cells3 hblk6
            have BLK6 := Lib.hid hblk6
            have hT6 := meTimes_any wc.heap.size A6 none c6 0 0 1 z.1.1 z.2 z.2 wc (Nat.le_refl _) (by omega) (by omega) (by omega) (Rd.of_own hos6)
            have HT6 := Lib.hid hT6
            clear hblk6 hos6 hT6
            go_wp2_with (go_at_call 62; refine HT6.out.mono ?_; rintro e' w6 ⟨A7, c7, rfl, ho6, hb6⟩; have h6 := (hb6.block _ (Array.getElem?_eq_some_iff.1 BLK6.out).1).trans BLK6.out; obtain ⟨t0, t1, t2, g0, g1, g2⟩ := cells3 h6)
            obtain ⟨w7, hw7⟩ : ∃ w7, ((World.setCell w6 ⟨w2.heap.size, 0, none⟩ (.int .i64 1)).setCell ⟨w2.heap.size, 1, none⟩ (.slice A7 (z.1.1.length + 1) c7)).setCell ⟨w2.heap.size, 2, none⟩ (.slice none 0 0) = w7 := ⟨_, rfl⟩
            rw [hw7]
            have MN7 := Lib.hid (pk_set (cs := #[_, _, _]) (by simp) h6 (own_base ho6 BZ.out.size) hw7)
            have BN7 := Lib.hid (show Below w2.heap.size w2 w7 from by subst hw7; exact (((BZ.out.trans (hb6.mono BZ.out.size)).setCell (Nat.le_refl _) _).setCell (Nat.le_refl _) _).setCell (Nat.le_refl _) _)
            clear hw7 h6 ho6 hb6 y0 y1 y2 t0 t1 t2 g0 g1 g2
            go_roundw
            case rel => exact ⟨k + 1, by omega, by go_num, by rw [EN.out]; rfl, by rw [EN.out]; rfl, by rw [EN.out]; exact MN7.out, BN7.out⟩
            case measure => simp [intOf]; omega
          · have im : ¬ (k : Int) < (L : Int) - 1 := by omega
            have EN := Lib.hid (show (if k + 1 < L then rQ n (k + 1) else rP n (k + 1)) = z by rw [if_neg hmore, HPZ.out])
            go_wp2
            go_roundw
            case rel => exact ⟨k + 1, by omega, by go_num, by rw [EN.out], by rw [EN.out], by rw [EN.out]; exact MZ.out, BZ.out⟩
            case measure => simp [intOf]; omega
      · have hv' : (0 : Int) ≤ y.1.2 := by rcases hyv with h | h <;> omega
        have E1 := Lib.hid (show z.1.1 = y.1.1 ++ [stI y.1.2 y.2] by rw [← hz]; unfold onS; rw [if_neg hv]; rfl)
        have E2 := Lib.hid (show z.1.2 = 1 + (y.1.1.length : Int) by rw [← hz]; unfold onS; rw [if_neg hv]; rfl)
        clear hz hv hyv
        go_upto_if 24 with fail
        go_cut [6] (fun vv wx => vv = .int .i64 z.1.2 ∧ PkS wx w2.heap.size w2.heap.size 1 z.1.1 ∧ Below w2.heap.size w2 wx)
        case first =>
          obtain ⟨A4, c4, hblk, hos⟩ := MKR.out
          obtain ⟨y0, y1, y2, _, _, _⟩ := cells3 hblk
          have BLK := Lib.hid hblk
          have hT := meTimes_any wr.heap.size A4 none c4 0 0 1 y.1.1 y.1.2 y.2 wr (Nat.le_refl _) (by omega) (by omega) (by omega) (Rd.of_own hos)
          have HT := Lib.hid hT
          clear hblk hos hT
          go_wp2_with (go_at_call 62; refine HT.out.mono ?_; rintro e' w3 ⟨A5, c5, rfl, ho3, hb3⟩; have h3 := (hb3.block _ (Array.getElem?_eq_some_iff.1 BLK.out).1).trans BLK.out; obtain ⟨t0, t1, t2, g0, g1, g2⟩ := cells3 h3)
          obtain ⟨w4, hw4⟩ : ∃ w4, ((World.setCell w3 ⟨w2.heap.size, 0, none⟩ (.int .i64 1)).setCell ⟨w2.heap.size, 1, none⟩ (.slice A5 (y.1.1.length + 1) c5)).setCell ⟨w2.heap.size, 2, none⟩ (.slice none 0 0) = w4 := ⟨_, rfl⟩
          rw [hw4]
          have MN := Lib.hid (pk_set (cs := #[_, _, _]) (by simp) h3 (own_base ho3 BEL.out.size) hw4)
          have BN := Lib.hid (show Below w2.heap.size w2 w4 from by subst hw4; exact (((BEL.out.trans (hb3.mono BEL.out.size)).setCell (Nat.le_refl _) _).setCell (Nat.le_refl _) _).setCell (Nat.le_refl _) _)
          clear hw4 h3 ho3 hb3 y0 y1 y2 t0 t1 t2 g0 g1 g2
          go_meet
          case rel => exact ⟨by rw [E2.out], by rw [E1.out]; exact MN.out, BN.out⟩
        case rest =>
          obtain ⟨rfl, hmk, hbel⟩ := hcut
          have MZ := Lib.hid hmk
          have BZ := Lib.hid hbel
          rw [← EQ2.out]
          clear hmk hbel
          by_cases hmore : k + 1 < L
          · have im : (k : Int) < (L : Int) - 1 := by omega
            have EN := Lib.hid (show (if k + 1 < L then rQ n (k + 1) else rP n (k + 1)) = rSq z by rw [if_pos hmore]; unfold rQ; rw [if_pos (by omega), HPZ.out])
            obtain ⟨A6, c6, hblk6, hos6⟩ := MZ.out
            obtain ⟨y0, y1, y2, _, _, _⟩ := cells3 hblk6
            have BLK6 := Lib.hid hblk6
            have hT6 := meTimes_any wc.heap.size A6 none c6 0 0 1 z.1.1 z.2 z.2 wc (Nat.le_refl _) (by omega) (by omega) (by omega) (Rd.of_own hos6)
            have HT6 := Lib.hid hT6
            clear hblk6 hos6 hT6
            go_wp2_with (go_at_call 62; refine HT6.out.mono ?_; rintro e' w6 ⟨A7, c7, rfl, ho6, hb6⟩; have h6 := (hb6.block _ (Array.getElem?_eq_some_iff.1 BLK6.out).1).trans BLK6.out; obtain ⟨t0, t1, t2, g0, g1, g2⟩ := cells3 h6)
            obtain ⟨w7, hw7⟩ : ∃ w7, ((World.setCell w6 ⟨w2.heap.size, 0, none⟩ (.int .i64 1)).setCell ⟨w2.heap.size, 1, none⟩ (.slice A7 (z.1.1.length + 1) c7)).setCell ⟨w2.heap.size, 2, none⟩ (.slice none 0 0) = w7 := ⟨_, rfl⟩
            rw [hw7]
            have MN7 := Lib.hid (pk_set (cs := #[_, _, _]) (by simp) h6 (own_base ho6 BZ.out.size) hw7)
            have BN7 := Lib.hid (show Below w2.heap.size w2 w7 from by subst hw7; exact (((BZ.out.trans (hb6.mono BZ.out.size)).setCell (Nat.le_refl _) _).setCell (Nat.le_refl _) _).setCell (Nat.le_refl _) _)
            clear hw7 h6 ho6 hb6 y0 y1 y2 t0 t1 t2 g0 g1 g2
            go_roundw
            case rel => exact ⟨k + 1, by omega, by go_num, by rw [EN.out]; rfl, by rw [EN.out]; rfl, by rw [EN.out]; exact MN7.out, BN7.out⟩
            case measure => simp [intOf]; omega
          · have im : ¬ (k : Int) < (L : Int) - 1 := by omega
            have EN := Lib.hid (show (if k + 1 < L then rQ n (k + 1) else rP n (k + 1)) = z by rw [if_neg hmore, HPZ.out])
            go_wp2
            go_roundw
            case rel => exact ⟨k + 1, by omega, by go_num, by rw [EN.out], by rw [EN.out], by rw [EN.out]; exact MZ.out, BZ.out⟩
            case measure => simp [intOf]; omega
    | false =>
      rw [hbit, if_neg (by decide)] at hcell hz
      have E1 := Lib.hid hz
      clear hbit hyv hz
      go_upto_if 24 with fail
      go_cut [6] (fun vv wx => vv = .int .i64 z.1.2 ∧ PkS wx w2.heap.size w2.heap.size 1 z.1.1 ∧ Below w2.heap.size w2 wx)
      case first =>
        go_wp2
        go_meet
        case rel => exact ⟨by rw [← E1.out], by rw [← E1.out]; exact MKR.out, BEL.out⟩
      case rest =>
        obtain ⟨rfl, hmk, hbel⟩ := hcut
        have MZ := Lib.hid hmk
        have BZ := Lib.hid hbel
        rw [← EQ2.out]
        clear hmk hbel
        by_cases hmore : k + 1 < L
        · have im : (k : Int) < (L : Int) - 1 := by omega
          have EN := Lib.hid (show (if k + 1 < L then rQ n (k + 1) else rP n (k + 1)) = rSq z by rw [if_pos hmore]; unfold rQ; rw [if_pos (by omega), HPZ.out])
          obtain ⟨A6, c6, hblk6, hos6⟩ := MZ.out
          obtain ⟨y0, y1, y2, _, _, _⟩ := cells3 hblk6
          have BLK6 := Lib.hid hblk6
          have hT6 := meTimes_any wc.heap.size A6 none c6 0 0 1 z.1.1 z.2 z.2 wc (Nat.le_refl _) (by omega) (by omega) (by omega) (Rd.of_own hos6)
          have HT6 := Lib.hid hT6
          clear hblk6 hos6 hT6
          go_wp2_with (go_at_call 62; refine HT6.out.mono ?_; rintro e' w6 ⟨A7, c7, rfl, ho6, hb6⟩; have h6 := (hb6.block _ (Array.getElem?_eq_some_iff.1 BLK6.out).1).trans BLK6.out; obtain ⟨t0, t1, t2, g0, g1, g2⟩ := cells3 h6)
          obtain ⟨w7, hw7⟩ : ∃ w7, ((World.setCell w6 ⟨w2.heap.size, 0, none⟩ (.int .i64 1)).setCell ⟨w2.heap.size, 1, none⟩ (.slice A7 (z.1.1.length + 1) c7)).setCell ⟨w2.heap.size, 2, none⟩ (.slice none 0 0) = w7 := ⟨_, rfl⟩
          rw [hw7]
          have MN7 := Lib.hid (pk_set (cs := #[_, _, _]) (by simp) h6 (own_base ho6 BZ.out.size) hw7)
          have BN7 := Lib.hid (show Below w2.heap.size w2 w7 from by subst hw7; exact (((BZ.out.trans (hb6.mono BZ.out.size)).setCell (Nat.le_refl _) _).setCell (Nat.le_refl _) _).setCell (Nat.le_refl _) _)
          clear hw7 h6 ho6 hb6 y0 y1 y2 t0 t1 t2 g0 g1 g2
          go_roundw
          case rel => exact ⟨k + 1, by omega, by go_num, by rw [EN.out]; rfl, by rw [EN.out]; rfl, by rw [EN.out]; exact MN7.out, BN7.out⟩
          case measure => simp [intOf]; omega
        · have im : ¬ (k : Int) < (L : Int) - 1 := by omega
          have EN := Lib.hid (show (if k + 1 < L then rQ n (k + 1) else rP n (k + 1)) = z by rw [if_neg hmore, HPZ.out])
          go_wp2
          go_roundw
          case rel => exact ⟨k + 1, by omega, by go_num, by rw [EN.out], by rw [EN.out], by rw [EN.out]; exact MZ.out, BZ.out⟩
          case measure => simp [intOf]; omega
end Go.Proofs.Ytodjnafalbbmjaa
/- RightPlan: the wrappers of both sides. -/
namespace Go.Proofs.Ytodjnafalbbmjaa
open Go.RowKit

def rgR (x : Int) : Pl := if isNum x then mkR (rgP x.toNat) else zeroP
def rgG (x : Int) : Bool := isNum x && good (rgP x.toNat)
theorem rgR_false {x : Int} (h : isNum x = false) : rgR x = zeroP ∧ rgG x = false := ⟨by unfold rgR; rw [if_neg (by rw [h]; decide)], by unfold rgG; rw [h]; rfl⟩
theorem rgR_true {n : Nat} (h : isNum (n : Int) = true) : rgR (n : Int) = mkR (rgP n) ∧ rgG (n : Int) = good (rgP n) := ⟨by unfold rgR; rw [if_pos h]; rfl, by unfold rgG; rw [h]; rfl⟩
theorem rgR_len (x : Int) : (rgR x).s.length ≤ 1000 ∧ (rgR x).o.length ≤ 1000 := by
  unfold rgR
  split
  · rename_i h
    have ⟨r1, r2⟩ := isNum_rng h
    obtain ⟨l1, l2⟩ := rgP_len (n := x.toNat) (by omega)
    exact mkR_len _ l1 l2
  · exact ⟨by simp [zeroP], by simp [zeroP]⟩

set_option maxRecDepth 100000 in
set_option maxHeartbeats 1000000 in
theorem specRightPlan_any (x : Int) (w : World) : Calls Try.prog 27 #[.int .i64 x] w fun e w' => ∃ R1 R2 v1 v2, e = .returned (.tuple #[.agg #[.int .i64 (rgR x).n, .slice R1 (rgR x).s.length v1, .slice R2 (rgR x).o.length v2], .bool (rgG x)]) ∧ OwP w' w.heap.size R1 R2 v1 v2 (rgR x) ∧ Below w.heap.size w w' := by
  obtain ⟨gn, hgn⟩ : ∃ g, isNum x = g := ⟨_, rfl⟩
  have HN := Lib.hid hgn
  cases gn with
  | false =>
    obtain ⟨E1, E2⟩ := rgR_false hgn
    have e1 := Lib.hid E1
    have e2 := Lib.hid E2
    clear E1 E2 hgn
    go_enter Try.func27, Try.ntmps27
    go_wp2_with fail
    go_at_call 39
    generalize hw1 : World.alloc w _ = w1
    obtain ⟨q0, xs, xb⟩ := zero_box hw1
    clear hw1
    refine (chNumber_any x w1).mono ?_
    rw [HN.out]
    rintro e w' ⟨rfl, hww⟩
    subst w'
    obtain ⟨t0, t1, t2, g0, g1, g2⟩ := cells3 q0
    go_wp2
    refine bodyPost_ret (v := (.tuple #[.agg #[.int .i64 0, .slice none 0 0, .slice none 0 0], .bool false])) (by simp [results, Try.results27, go_sem, t0, t1, t2]) rfl ⟨none, none, 0, 0, by rw [e1.out, e2.out]; rfl, by rw [e1.out]; exact OwP.zero _ _, ?_⟩
    exact ((xb.setCell (Nat.le_refl _) _).setCell (Nat.le_refl _) _).setCell (Nat.le_refl _) _
  | true =>
    have ⟨r1, r2⟩ := isNum_rng hgn
    obtain ⟨n, rfl⟩ : ∃ n : Nat, x = n := ⟨x.toNat, by omega⟩
    obtain ⟨E1, E2⟩ := rgR_true hgn
    obtain ⟨l1, l2⟩ := rgP_len (n := n) (by omega)
    have hME := fun W => meRight_any n W (by omega) (by omega)
    obtain ⟨P, hP⟩ : ∃ P, rgP n = P := ⟨_, rfl⟩
    rw [hP] at hME E1 E2 l1 l2
    have HME := Lib.hid hME
    have e1 := Lib.hid E1
    have e2 := Lib.hid E2
    clear hME E1 E2 hP hgn
    go_enter Try.func27, Try.ntmps27
    go_wp2_with fail
    go_at_call 39
    generalize hw1 : World.alloc w _ = w1
    obtain ⟨q0, xs, xb⟩ := zero_box hw1
    clear hw1
    have Q0 := Lib.hid q0
    have XB := Lib.hid xb
    have XS := Lib.hid xs
    clear q0 xs xb
    refine (chNumber_any n w1).mono ?_
    rw [HN.out]
    rintro e w' ⟨rfl, hww⟩
    subst w'
    go_wp2_with fail
    go_at_call 52
    refine (HME.out w1).mono ?_
    rintro e w3 ⟨A4, A5, c4, c5, rfl, ho3, hb3⟩
    have RD := Lib.hid ho3.rd
    have OWP := Lib.hid ho3
    have B3 := Lib.hid hb3
    clear ho3 hb3
    go_wp2_with fail
    go_at_call 45
    refine (plIf_any w3.heap.size A4 A5 c4 c5 P w3 (Nat.le_refl _) (by omega) (by omega) RD.out).mono ?_
    rintro e w5 ⟨rfl, hb5⟩
    have B5 := Lib.hid (B3.out.trans (hb5.mono B3.out.size))
    have Q5 := Lib.hid ((B5.out.block w.heap.size (by have := XS.out; omega)).trans Q0.out)
    have O5 := Lib.hid (OWP.out.below hb5)
    obtain ⟨R1, R2, v1, v2, hsel, hres, hbel⟩ := selV_mk (w0 := w) (B := w.heap.size) (g := w.heap.size) rfl O5.out (by have := XS.out; omega) ⟨_, Q5.out⟩ (XB.out.trans (B5.out.mono (by have := XS.out; omega))) (Nat.le_refl _)
    rw [hsel]
    rw [← e1.out] at hres hbel ⊢
    rw [← e2.out]
    obtain ⟨t0, t1, t2, g0, g1, g2⟩ := cells3 Q5.out
    have RES := Lib.hid hres
    have BRES := Lib.hid hbel
    clear hb5 hsel hres hbel
    go_wp2
    refine bodyPost_ret (v := .tuple #[.agg #[.int .i64 (rgR n).n, .slice R1 (rgR n).s.length v1, .slice R2 (rgR n).o.length v2], .bool (rgG n)]) (by simp [results, Try.results27, go_sem, t0, t1, t2]) rfl ⟨R1, R2, v1, v2, rfl, RES.out, BRES.out⟩

set_option maxRecDepth 100000 in
set_option maxHeartbeats 1000000 in
theorem planByRightPlan_any (x : Int) (w : World) : Calls Try.prog 56 #[.iface 82 (.agg #[]), .int .i64 x] w fun e w' => ∃ R1 R2 v1 v2, e = .returned (.tuple #[.agg #[.int .i64 (rgR x).n, .slice R1 (rgR x).s.length v1, .slice R2 (rgR x).o.length v2], .bool (rgG x)]) ∧ OwP w' w.heap.size R1 R2 v1 v2 (rgR x) ∧ Below w.heap.size w w' := by
  obtain ⟨gn, hgn⟩ : ∃ g, isNum x = g := ⟨_, rfl⟩
  have HN := Lib.hid hgn
  cases gn with
  | false =>
    obtain ⟨E1, E2⟩ := rgR_false hgn
    have e1 := Lib.hid E1
    have e2 := Lib.hid E2
    clear E1 E2 hgn
    go_enter Try.func56, Try.ntmps56
    go_wp2_with fail
    go_at_call 42
    generalize hw1 : World.alloc w _ = w1
    obtain ⟨q0, xs, xb⟩ := zero_box hw1
    clear hw1
    refine (isExponent_any x w1).mono ?_
    rw [HN.out]
    rintro e w' ⟨rfl, hww⟩
    subst w'
    obtain ⟨t0, t1, t2, g0, g1, g2⟩ := cells3 q0
    go_wp2
    refine bodyPost_ret (v := (.tuple #[.agg #[.int .i64 0, .slice none 0 0, .slice none 0 0], .bool false])) (by simp [results, Try.results56, go_sem, t0, t1, t2]) rfl ⟨none, none, 0, 0, by rw [e1.out, e2.out]; rfl, by rw [e1.out]; exact OwP.zero _ _, ?_⟩
    exact ((xb.setCell (Nat.le_refl _) _).setCell (Nat.le_refl _) _).setCell (Nat.le_refl _) _
  | true =>
    have ⟨r1, r2⟩ := isNum_rng hgn
    obtain ⟨n, rfl⟩ : ∃ n : Nat, x = n := ⟨x.toNat, by omega⟩
    obtain ⟨E1, E2⟩ := rgR_true hgn
    have hME := fun W => rightFor_any n W (by omega) (by omega)
    rw [← E1, ← E2] at hME
    obtain ⟨Q, hQ⟩ : ∃ Q, rgR (n : Int) = Q := ⟨_, rfl⟩
    obtain ⟨gd, hgd⟩ : ∃ Q, rgG (n : Int) = Q := ⟨_, rfl⟩
    rw [hQ, hgd] at hME
    rw [hQ, hgd]
    have HME := Lib.hid hME
    clear hME E1 E2 hQ hgd hgn
    go_enter Try.func56, Try.ntmps56
    go_wp2_with fail
    go_at_call 42
    generalize hw1 : World.alloc w _ = w1
    obtain ⟨q0, xs, xb⟩ := zero_box hw1
    clear hw1
    have Q0 := Lib.hid q0
    have XB := Lib.hid xb
    have XS := Lib.hid xs
    clear q0 xs xb
    refine (isExponent_any n w1).mono ?_
    rw [HN.out]
    rintro e w' ⟨rfl, hww⟩
    subst w'
    go_wp2_with fail
    go_at_call 130
    refine (HME.out w1).mono ?_
    rintro e w5 ⟨R1, R2, v1, v2, rfl, ho5, hb5⟩
    have q5 := (hb5.block w.heap.size (by have := XS.out; omega)).trans Q0.out
    obtain ⟨t0, t1, t2, g0, g1, g2⟩ := cells3 q5
    have B5 := Lib.hid (XB.out.trans (hb5.mono (by have := XS.out; omega)))
    have O5 := Lib.hid ho5
    have Q5 := Lib.hid q5
    clear hb5 ho5 q5
    go_wp2
    refine bodyPost_ret (v := .tuple #[.agg #[.int .i64 Q.n, .slice R1 Q.s.length v1, .slice R2 Q.o.length v2], .bool gd]) (by simp [results, Try.results56, go_sem, t0, t1, t2]) rfl ⟨R1, R2, v1, v2, rfl, ?_, ?_⟩
    · refine owP_of3 (own_base O5.out.1 (by have := XS.out; omega)) (own_base O5.out.2 (by have := XS.out; omega)) Q5.out (by decide) (by decide) rfl rfl _ _ _
    · exact ((B5.out.setCell (Nat.le_refl _) _).setCell (Nat.le_refl _) _).setCell (Nat.le_refl _) _

set_option maxRecDepth 100000 in
theorem lookRightPlan {w : World} {b : Nat} (h : w.ownsMap Try.prog 9 mR b 7 mD) : (Instr.lookup 64 (.map (some b)) (.string ⟨#[114, 105, 103, 104, 116]⟩) false).run Try.prog w = .ok (.iface 82 (.agg #[])) w := by
  obtain ⟨v, ps, hrun, hv⟩ := h.lookup mKey Try.underlying64 (z := .nilIface) (by kernel_rfl) (show mR .nilIface = some (.agg [], []) from rfl) (mKeyOf ⟨#[114, 105, 103, 104, 116]⟩ (by decide))
  have e : v = .iface 82 (.agg #[]) := mR_one (by rw [hv]; rfl)
  rw [← e]
  exact hrun

set_option maxRecDepth 100000 in
set_option maxHeartbeats 1000000 in
theorem planByNameRightPlan_any (x : Int) (w : World) : Calls Try.prog 47 #[.string ⟨#[114, 105, 103, 104, 116]⟩, .int .i64 x] w fun e w' => ∃ R1 R2 v1 v2, e = .returned (.tuple #[.agg #[.int .i64 (rgR x).n, .slice R1 (rgR x).s.length v1, .slice R2 (rgR x).o.length v2], .bool (rgG x)]) ∧ OwP w' w.heap.size R1 R2 v1 v2 (rgR x) ∧ Below w.heap.size w w' := by
  have hME := fun W => planByRightPlan_any x W
  obtain ⟨Q, hQ⟩ : ∃ Q, rgR x = Q := ⟨_, rfl⟩
  obtain ⟨gd, hgd⟩ : ∃ Q, rgG x = Q := ⟨_, rfl⟩
  rw [hQ, hgd] at hME
  rw [hQ, hgd]
  have HME := Lib.hid hME
  clear hME hQ hgd
  go_enter Try.func47, Try.ntmps47
  go_wp2_with fail
  go_at_call 64
  generalize hw1 : World.alloc w _ = w1
  obtain ⟨q0, xs, xb⟩ := zero_box hw1
  clear hw1
  refine (methods_any w1).mono ?_
  rintro e w2 ⟨b, rfl, hmap, hb2⟩
  have hlook := lookRightPlan hmap
  have Q2 := Lib.hid ((hb2.block w.heap.size (by omega)).trans q0)
  have XB := Lib.hid (xb.trans (hb2.mono (by omega)))
  have XS := Lib.hid (show w.heap.size < w2.heap.size by have := hb2.size; omega)
  clear q0 xs xb hmap hb2
  go_wp2_with fail
  go_at_call 56
  refine (HME.out w2).mono ?_
  rintro e w5 ⟨R1, R2, v1, v2, rfl, ho5, hb5⟩
  have q5 := (hb5.block w.heap.size (by have := XS.out; omega)).trans Q2.out
  obtain ⟨t0, t1, t2, g0, g1, g2⟩ := cells3 q5
  have B5 := Lib.hid (XB.out.trans (hb5.mono (by have := XS.out; omega)))
  have O5 := Lib.hid ho5
  have Q5 := Lib.hid q5
  clear hb5 ho5 q5 hlook
  go_wp2
  refine bodyPost_ret (v := .tuple #[.agg #[.int .i64 Q.n, .slice R1 Q.s.length v1, .slice R2 Q.o.length v2], .bool gd]) (by simp [results, Try.results47, go_sem, t0, t1, t2]) rfl ⟨R1, R2, v1, v2, rfl, ?_, ?_⟩
  · refine owP_of3 (own_base O5.out.1 (by have := XS.out; omega)) (own_base O5.out.2 (by have := XS.out; omega)) Q5.out (by decide) (by decide) rfl rfl _ _ _
  · exact ((B5.out.setCell (Nat.le_refl _) _).setCell (Nat.le_refl _) _).setCell (Nat.le_refl _) _

set_option maxRecDepth 100000 in
set_option maxHeartbeats 1000000 in
theorem implRightPlan_any (x : Int) (w : World) : Calls Try.prog 28 #[.int .i64 x] w fun e w' => ∃ R1 R2 v1 v2, e = .returned (.tuple #[.agg #[.int .i64 (rgR x).n, .slice R1 (rgR x).s.length v1, .slice R2 (rgR x).o.length v2], .bool (rgG x)]) ∧ OwP w' w.heap.size R1 R2 v1 v2 (rgR x) ∧ Below w.heap.size w w' := by
  have hME := fun W => planByNameRightPlan_any x W
  obtain ⟨Q, hQ⟩ : ∃ Q, rgR x = Q := ⟨_, rfl⟩
  obtain ⟨gd, hgd⟩ : ∃ Q, rgG x = Q := ⟨_, rfl⟩
  rw [hQ, hgd] at hME
  rw [hQ, hgd]
  have HME := Lib.hid hME
  clear hME hQ hgd
  go_enter Try.func28, Try.ntmps28
  go_wp2_with fail
  go_at_call 47
  generalize hw1 : World.alloc w _ = w1
  obtain ⟨q0, xs, xb⟩ := zero_box hw1
  clear hw1
  have Q2 := Lib.hid q0
  have XB := Lib.hid xb
  have XS := Lib.hid xs
  clear q0 xs xb
  refine (HME.out w1).mono ?_
  rintro e w5 ⟨R1, R2, v1, v2, rfl, ho5, hb5⟩
  have q5 := (hb5.block w.heap.size (by have := XS.out; omega)).trans Q2.out
  obtain ⟨t0, t1, t2, g0, g1, g2⟩ := cells3 q5
  have B5 := Lib.hid (XB.out.trans (hb5.mono (by have := XS.out; omega)))
  have O5 := Lib.hid ho5
  have Q5 := Lib.hid q5
  clear hb5 ho5 q5
  go_wp2
  refine bodyPost_ret (v := .tuple #[.agg #[.int .i64 Q.n, .slice R1 Q.s.length v1, .slice R2 Q.o.length v2], .bool gd]) (by simp [results, Try.results28, go_sem, t0, t1, t2]) rfl ⟨R1, R2, v1, v2, rfl, ?_, ?_⟩
  · refine owP_of3 (own_base O5.out.1 (by have := XS.out; omega)) (own_base O5.out.2 (by have := XS.out; omega)) Q5.out (by decide) (by decide) rfl rfl _ _ _
  · exact ((B5.out.setCell (Nat.le_refl _) _).setCell (Nat.le_refl _) _).setCell (Nat.le_refl _) _
end Go.Proofs.Ytodjnafalbbmjaa
