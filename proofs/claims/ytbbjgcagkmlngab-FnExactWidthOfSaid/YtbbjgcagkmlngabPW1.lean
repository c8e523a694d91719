/- Joined: Mk Ml Mm Ql Qf Qg Qn0 Ka Kc Us Ut Uu Jd Gr Ca Je Jc Jf. -/
import Derived.Test.YtbbjgcagkmlngabPW0
import Derived.WalkMore
import Derived.Lib.AppendZeros
import Derived.Lib.AppendZerosOnto
/- The laws' own helpers: marks. -/
namespace Go.Proofs.Ytbbjgcagkmlngab
open Go.RowKit

def marksI (k : Int) (n : Nat) : List Int := (List.range n).map fun i : Nat => k + (i : Int)
def marksS (k : Int) (n : Nat) : List (Int × Int) := (List.range n).map fun i : Nat => (k + 2 * (i : Int), k + 2 * (i : Int) + 1)
theorem marksI_length (k : Int) (n : Nat) : (marksI k n).length = n := by simp [marksI]
theorem marksS_length (k : Int) (n : Nat) : (marksS k n).length = n := by simp [marksS]
theorem marksI_succ (k : Int) (n : Nat) : marksI k (n + 1) = marksI k n ++ [k + (n : Int)] := by
  unfold marksI
  rw [List.range_succ, List.map_append]
  rfl
theorem marksS_succ (k : Int) (n : Nat) : marksS k (n + 1) = marksS k n ++ [(k + 2 * (n : Int), k + 2 * (n : Int) + 1)] := by
  unfold marksS
  rw [List.range_succ, List.map_append]
  rfl
/-- The first k of a list replaced. -/
def over {α : Type} (xs ys : List α) (k : Nat) : List α := xs.take k ++ ys.drop k
theorem over_set_int (l : List Int) (m : Int) (k : Nat) (hk : k < l.length) :
    (((marksI m k) ++ l.drop k).map I).set k (I (m + (k : Int))) = ((marksI m (k + 1)) ++ l.drop (k + 1)).map I := by
  rw [← List.map_set, List.set_append_right _ _ (by rw [marksI_length]; omega), marksI_length, Nat.sub_self, marksI_succ, List.drop_eq_getElem_cons hk, List.set_cons_zero]
  simp
theorem over_set_step (s : List (Int × Int)) (m : Int) (k : Nat) (hk : k < s.length) :
    ((fl ((marksS m k) ++ s.drop k)).set (k * 2) (I (m + 2 * (k : Int)))).set (k * 2 + 1) (I (m + 2 * (k : Int) + 1)) = fl ((marksS m (k + 1)) ++ s.drop (k + 1)) := by
  have e : ∀ a b : List (Int × Int), fl (a ++ b) = fl a ++ fl b := fun a b => by simp [fl]
  have hl : (fl (marksS m k)).length = k * 2 := by rw [fl_length, marksS_length]
  have e2 : fl (s.drop k) = I (s[k]).1 :: I (s[k]).2 :: fl (s.drop (k + 1)) := by rw [List.drop_eq_getElem_cons hk]; rfl
  rw [e, e2, List.set_append_right _ _ (by omega), hl, Nat.sub_self, List.set_cons_zero, List.set_append_right _ _ (by omega), hl, show k * 2 + 1 - k * 2 = 1 by omega, List.set_cons_succ, List.set_cons_zero, marksS_succ, e, e]
  simp [fl]

set_option maxHeartbeats 1000000 in
theorem markIntS_any (B : Nat) (A : Option Addr) (c : Nat) (l : List Int) (m : Int) (w : World) (hm : l.length ≤ 4000000) (hm0 : 0 ≤ m) (hm1 : m ≤ 100000000) (hown : OwI w B (.slice A l.length c) l) :
    Calls Try.prog 29 #[.slice A l.length c, .int .i64 m] w fun e w' => e = .returned (.int .i64 (m + (l.length : Int))) ∧ OwI w' B (.slice A l.length c) (marksI m l.length) ∧ w.grownBy w' (Value.slice A l.length c).ownBlock := by
  have HOWN := Lib.hid hown
  clear hown
  go_enter Try.func29, Try.ntmps29
  go_wp2
  go_loopw [1, 5] (fun kv iv wr => ∃ k : Nat, k ≤ l.length ∧ iv = .int .i64 k ∧ kv = .int .i64 (m + (k : Int)) ∧ OwI wr B (.slice A l.length c) (marksI m k ++ l.drop k) ∧ w.grownBy wr (Value.slice A l.length c).ownBlock) (fun _ i _ => l.length - (intOf i).toNat)
  case atStart => exact ⟨0, by omega, rfl, by simp, HOWN.out, World.grownBy.refl _ _⟩
  case round =>
    obtain ⟨k, hk, rfl, rfl, hown, hbel⟩ := hrel
    have hll : (marksI m k ++ l.drop k).length = l.length := by rw [List.length_append, marksI_length, List.length_drop]; omega
    by_cases hlt : k < l.length
    · have ho : wr.ownsRow B 3 1 (.slice A l.length c) l.length ((marksI m k ++ l.drop k).map I) := by
        have h : wr.ownsRow _ _ _ _ _ _ := hown
        rw [hll] at h
        exact h
      obtain ⟨g, rfl, hgB, hgs, hcs, hfs⟩ := own_at ho (by omega)
      have hc : wr.cell? ⟨g, k, none⟩ = some (.int .i64 ((marksI m k ++ l.drop k)[k]'(by rw [hll]; exact hlt))) := by
        rw [hcs _ (by omega)]
        have hlt' : k < (marksI m k ++ l.drop k).length := by rw [hll]; exact hlt
        simp only [List.getElem?_map, List.getElem?_eq_getElem hlt', Option.map_some, I]
      have hf := hfs k
      have HO := Lib.hid ho
      have HB := Lib.hid hbel
      generalize hval : (Value.int .i64 ((marksI m k ++ l.drop k)[k]'(by rw [hll]; exact hlt))) = cv at hc
      clear ho hown hbel hcs hfs hval
      go_wp2
      go_roundw
      case rel =>
        refine ⟨k + 1, by omega, by go_num, by go_num, ?_, grown_set HB.out _⟩
        have h := (HO.out.stored k (I (m + (k : Int)))).1
        rw [over_set_int l m k hlt] at h
        show World.ownsRow _ _ _ _ _ _ _
        rw [show (marksI m (k + 1) ++ l.drop (k + 1)).length = l.length by rw [List.length_append, marksI_length, List.length_drop]; omega]
        exact h
      case measure => simp [intOf]; omega
    · have hk' : k = l.length := by omega
      subst hk'
      rw [List.drop_length, List.append_nil] at hown
      go_wp2
      go_ret
      exact ⟨rfl, hown, hbel⟩

set_option maxHeartbeats 1000000 in
theorem heldIntS_any (B : Nat) (A : Option Addr) (c n : Nat) (m : Int) (w : World) (hm : n ≤ 4000000) (hm0 : 0 ≤ m) (hm1 : m ≤ 100000000) (hr : Rd w B 1 A n ((marksI m n).map I)) :
    Calls Try.prog 30 #[.slice A n c, .int .i64 m] w fun e w' => e = .returned (.int .i64 (m + (n : Int))) ∧ w = w' := by
  have hr2 : Rd w B 1 A (marksI m n).length ((marksI m n).map I) := by rw [marksI_length]; exact hr
  have H := Lib.hid hr2
  clear hr hr2
  go_enter Try.func30, Try.ntmps30
  go_wp2
  go_loopw [1, 5] (fun kv iv wr => ∃ k : Nat, k ≤ n ∧ iv = .int .i64 k ∧ kv = .int .i64 (m + (k : Int)) ∧ w = wr) (fun _ i _ => n - (intOf i).toNat)
  case atStart => exact ⟨0, by omega, rfl, by simp, rfl⟩
  case round =>
    obtain ⟨k, hk, rfl, rfl, rfl⟩ := hrel
    by_cases hlt : k < n
    · obtain ⟨b, off, rfl, hb, hcell⟩ := H.out.int (show k < (marksI m n).length by rw [marksI_length]; exact hlt)
      have e : (marksI m n)[k]'(by rw [marksI_length]; exact hlt) = m + (k : Int) := by simp [marksI]
      rw [e] at hcell
      have ik : (k : Int) < (n : Int) := by omega
      go_wp2
      go_roundw
      case rel => exact ⟨k + 1, by omega, by go_num, by go_num, trivial⟩
      case measure => simp [intOf]; omega
    · have hk' : k = n := by omega
      subst hk'
      go_wp2
      go_ret
      exact ⟨rfl, rfl⟩
set_option maxRecDepth 100000 in
set_option maxHeartbeats 1000000 in
theorem markStepS_any (B : Nat) (A : Option Addr) (c : Nat) (s : List (Int × Int)) (m : Int) (w : World) (hm : s.length ≤ 4000000) (hm0 : 0 ≤ m) (hm1 : m ≤ 100000000) (hown : OwS w B (.slice A s.length c) s) :
    Calls Try.prog 91 #[.slice A s.length c, .int .i64 m] w fun e w' => e = .returned (.int .i64 (m + 2 * (s.length : Int))) ∧ OwS w' B (.slice A s.length c) (marksS m s.length) ∧ w.grownBy w' (Value.slice A s.length c).ownBlock := by
  have HOWN := Lib.hid hown
  clear hown
  go_enter Try.func91, Try.ntmps91
  go_wp2
  go_loopw [1, 5] (fun kv iv wr => ∃ k : Nat, k ≤ s.length ∧ iv = .int .i64 k ∧ kv = .int .i64 (m + 2 * (k : Int)) ∧ OwS wr B (.slice A s.length c) (marksS m k ++ s.drop k) ∧ w.grownBy wr (Value.slice A s.length c).ownBlock) (fun _ i _ => s.length - (intOf i).toNat)
  case atStart => exact ⟨0, by omega, rfl, by simp, HOWN.out, World.grownBy.refl _ _⟩
  case round =>
    obtain ⟨k, hk, rfl, rfl, hown, hbel⟩ := hrel
    have hll : (marksS m k ++ s.drop k).length = s.length := by rw [List.length_append, marksS_length, List.length_drop]; omega
    by_cases hlt : k < s.length
    · have ho : wr.ownsRow B 114 2 (.slice A s.length c) s.length (fl (marksS m k ++ s.drop k)) := by
        have h : wr.ownsRow _ _ _ _ _ _ := hown
        rw [hll] at h
        exact h
      obtain ⟨g, rfl, hgB, hgs, hcs, hfs⟩ := own_at ho (by omega)
      have hlt' : k < (marksS m k ++ s.drop k).length := by rw [hll]; exact hlt
      obtain ⟨v0, hv0⟩ : ∃ v, wr.cell? ⟨g, k * 2, none⟩ = some (.int .i64 v) := ⟨_, by rw [hcs _ (by omega)]; exact (fl_at hlt').1⟩
      obtain ⟨v1, hv1⟩ : ∃ v, wr.cell? ⟨g, k * 2 + 1, none⟩ = some (.int .i64 v) := ⟨_, by rw [hcs _ (by omega)]; exact (fl_at hlt').2⟩
      have hf0 := hfs (k * 2)
      have ho1 := (ho.stored (k * 2) (I (m + 2 * (k : Int)))).1
      have hf1 := ho1.frozenAt (k * 2 + 1)
      have hv2 : (wr.setCell ⟨g, k * 2, none⟩ (I (m + 2 * (k : Int)))).cell? ⟨g, k * 2 + 1, none⟩ = some (.int .i64 v1) := by
        rw [ho1.cellAt _ (by omega), List.getElem?_set_ne (by omega), ← hcs _ (by omega)]
        exact hv1
      have HO := Lib.hid ho1
      have HB := Lib.hid hbel
      clear ho ho1 hown hbel hcs hfs
      go_wp2
      go_roundw
      case rel =>
        refine ⟨k + 1, by omega, by go_num, by go_num, ?_, grown_set (grown_set HB.out _) _⟩
        have h := (HO.out.stored (k * 2 + 1) (I (m + 2 * (k : Int) + 1))).1
        rw [over_set_step s m k hlt] at h
        show World.ownsRow _ _ _ _ _ _ _
        rw [show (marksS m (k + 1) ++ s.drop (k + 1)).length = s.length by rw [List.length_append, marksS_length, List.length_drop]; omega]
        exact h
      case measure => simp [intOf]; omega
    · have hk' : k = s.length := by omega
      subst hk'
      rw [List.drop_length, List.append_nil] at hown
      go_wp2
      go_ret
      exact ⟨rfl, hown, hbel⟩

set_option maxHeartbeats 1000000 in
theorem heldStepS_any (B : Nat) (A : Option Addr) (c n : Nat) (m : Int) (w : World) (hm : n ≤ 4000000) (hm0 : 0 ≤ m) (hm1 : m ≤ 100000000) (hr : Rd w B 2 A n (fl (marksS m n))) :
    Calls Try.prog 99 #[.slice A n c, .int .i64 m] w fun e w' => e = .returned (.int .i64 (m + 2 * (n : Int))) ∧ w = w' := by
  have hr2 : Rd w B 2 A (marksS m n).length (fl (marksS m n)) := by rw [marksS_length]; exact hr
  have H := Lib.hid hr2
  clear hr hr2
  go_enter Try.func99, Try.ntmps99
  go_wp2
  go_loopw [1, 5] (fun kv iv wr => ∃ k : Nat, k ≤ n ∧ iv = .int .i64 k ∧ kv = .int .i64 (m + 2 * (k : Int)) ∧ w = wr) (fun _ i _ => n - (intOf i).toNat)
  case atStart => exact ⟨0, by omega, rfl, by simp, rfl⟩
  case round =>
    obtain ⟨k, hk, rfl, rfl, rfl⟩ := hrel
    by_cases hlt : k < n
    · obtain ⟨b, off, rfl, hb, hc1, hc2⟩ := H.out.stp (show k < (marksS m n).length by rw [marksS_length]; exact hlt)
      have e : (marksS m n)[k]'(by rw [marksS_length]; exact hlt) = (m + 2 * (k : Int), m + 2 * (k : Int) + 1) := by simp [marksS]
      rw [e] at hc1 hc2
      have ik : (k : Int) < (n : Int) := by omega
      go_wp2
      go_roundw
      case rel => exact ⟨k + 1, by omega, by go_num, by go_num, trivial⟩
      case measure => simp [intOf]; omega
    · have hk' : k = n := by omega
      subst hk'
      go_wp2
      go_ret
      exact ⟨rfl, rfl⟩

/-- Only blocks from lo on and before hi may have changed. -/
def Win (lo hi : Nat) (w w' : World) : Prop := Below lo w w' ∧ ∀ k, hi ≤ k → k < w.heap.size → w'.heap[k]? = w.heap[k]?
theorem Win.refl (lo hi : Nat) (w : World) : Win lo hi w w := ⟨Below.refl _ _, fun _ _ _ => rfl⟩
theorem Win.trans {lo hi : Nat} {a b c : World} (h : Win lo hi a b) (h' : Win lo hi b c) : Win lo hi a c :=
  ⟨h.1.trans h'.1, fun k h1 h2 => (h'.2 k h1 (Nat.lt_of_lt_of_le h2 h.1.size)).trans (h.2 k h1 h2)⟩
theorem Win.of_below {lo hi : Nat} {w w' : World} (h : Below w.heap.size w w') (hl : lo ≤ w.heap.size) : Win lo hi w w' := ⟨h.mono hl, fun k _ hk => h.block k hk⟩
theorem Win.of_grown {lo hi : Nat} {w w' : World} {row : Option Nat} (h : w.grownBy w' row) (hl : lo ≤ w.heap.size) (h1 : ∀ k, row = some k → lo ≤ k ∧ k < hi) : Win lo hi w w' :=
  ⟨⟨h.os, h.tape, h.output, h.size, fun k hk => h.block k (by omega) (fun e => by have := h1 k e.symm; omega)⟩, fun k h2 hk => h.block k hk (fun e => by have := h1 k e.symm; omega)⟩
theorem Win.own {lo hi B sz n : Nat} {e : TypeId} {w w' : World} {v : Value} {xs : List Value} (h : Win lo hi w w') (ho : w.ownsRow B e sz v n xs) (hB : hi ≤ B) : w'.ownsRow B e sz v n xs := by
  refine ⟨ho.1, ?_⟩
  rcases ho.2 with h0 | ⟨g, cap, cur, hv, hb, hg, r⟩
  · exact .inl h0
  · exact .inr ⟨g, cap, cur, hv, hb, by rw [h.2 g (by omega) (Array.getElem?_eq_some_iff.1 hg).1]; exact hg, r⟩

set_option maxRecDepth 100000 in
set_option maxHeartbeats 1000000 in
theorem markPlan_any (B hi : Nat) (A1 A2 : Option Addr) (c1 c2 : Nat) (p : Pl) (m : Int) (w : World) (h1 : p.s.length ≤ 1048576) (h2 : p.o.length ≤ 1048576) (hm0 : 0 ≤ m) (hm1 : m ≤ 10) (hB : B ≤ w.heap.size) (hhi : hi ≤ w.heap.size) (hown : OwP w B A1 A2 c1 c2 p)
    (hb1 : ∀ k, (Value.slice A1 p.s.length c1).ownBlock = some k → k < hi) (hb2 : ∀ k, (Value.slice A2 p.o.length c2).ownBlock = some k → k < hi) :
    Calls Try.prog 28 #[.agg #[.int .i64 p.n, .slice A1 p.s.length c1, .slice A2 p.o.length c2], .int .i64 m] w fun e w' =>
      e = .returned (.int .i64 (m + 2 * (p.s.length : Int) + (p.o.length : Int))) ∧ OwS w' B (.slice A1 p.s.length c1) (marksS m p.s.length) ∧ OwI w' B (.slice A2 p.o.length c2) (marksI (m + 2 * (p.s.length : Int)) p.o.length) ∧ Win B hi w w' := by
  have HOWN := Lib.hid hown
  have H1 := Lib.hid hb1
  have H2 := Lib.hid hb2
  clear hown hb1 hb2
  go_enter Try.func28, Try.ntmps28
  go_wp2_with fail
  go_at_call 91
  generalize hw1 : World.alloc w _ = w1
  obtain ⟨x0, x1, x2, xs, xb⟩ := box3 hw1
  clear hw1
  have hown1 := HOWN.out.below xb
  refine (markStepS_any B A1 c1 p.s m w1 (by omega) hm0 (by omega) hown1.1).mono ?_
  rintro e w2 ⟨rfl, ho2, hg2⟩
  have hne := own_ne hown1.2 hown1.1 (by decide)
  have ho2i := World.ownsRow.kept hown1.2 hg2 hne
  have hw2 : Win B hi w1 w2 := Win.of_grown hg2 (by omega) (fun k hk => ⟨(own_block hown1.1 k hk).1, H1.out k hk⟩)
  have y2 : w2.cell? ⟨w.heap.size, 2, none⟩ = some (.slice A2 p.o.length c2) := (World.cell?_of_block (hw2.2 w.heap.size (by omega) (by omega))).trans x2
  have HW2 := Lib.hid ((Win.of_below xb hB).trans hw2)
  have HO2 := Lib.hid ho2
  have HI2 := Lib.hid ho2i
  have hs2 : w.heap.size + 1 ≤ w2.heap.size := by have := hg2.size; omega
  clear x0 x1 x2 xs xb hown1 ho2 hg2 hne ho2i hw2
  go_wp2_with fail
  go_at_call 29
  refine (markIntS_any B A2 c2 p.o (m + 2 * (p.s.length : Int)) w2 (by omega) (by omega) (by omega) HI2.out).mono ?_
  rintro e w3 ⟨rfl, ho3, hg3⟩
  have hne := own_ne HO2.out HI2.out (by decide)
  have ho3s := World.ownsRow.kept HO2.out hg3 hne
  have hw3 : Win B hi w2 w3 := Win.of_grown hg3 (by omega) (fun k hk => ⟨(own_block HI2.out k hk).1, H2.out k hk⟩)
  have HW3 := Lib.hid (HW2.out.trans hw3)
  have HO3 := Lib.hid ho3
  have HS3 := Lib.hid ho3s
  clear ho3 hg3 hne ho3s hw3
  go_wp2
  go_ret
  exact ⟨rfl, HS3.out, HO3.out, HW3.out⟩

set_option maxRecDepth 100000 in
set_option maxHeartbeats 1000000 in
theorem heldPlan_any (B : Nat) (A1 A2 : Option Addr) (c1 c2 n1 n2 : Nat) (z m : Int) (w : World) (h1 : n1 ≤ 1048576) (h2 : n2 ≤ 1048576) (hm0 : 0 ≤ m) (hm1 : m ≤ 10) (hB : B ≤ w.heap.size) (hr1 : Rd w B 2 A1 n1 (fl (marksS m n1))) (hr2 : Rd w B 1 A2 n2 ((marksI (m + 2 * (n1 : Int)) n2).map I)) :
    Calls Try.prog 35 #[.agg #[.int .i64 z, .slice A1 n1 c1, .slice A2 n2 c2], .int .i64 m] w fun e w' =>
      e = .returned (.int .i64 (m + 2 * (n1 : Int) + (n2 : Int))) ∧ Below w.heap.size w w' := by
  have H1 := Lib.hid hr1
  have H2 := Lib.hid hr2
  clear hr1 hr2
  have hn1 : ¬ (m + 2 * (n1 : Int) < 0) := by omega
  have hn2 : ¬ (m + 2 * (n1 : Int) + (n2 : Int) < 0) := by omega
  go_enter Try.func35, Try.ntmps35
  go_wp2_with fail
  go_at_call 99
  generalize hw1 : World.alloc w _ = w1
  obtain ⟨x0, x1, x2, xs, xb⟩ := box3 hw1
  clear hw1
  refine (heldStepS_any B A1 c1 n1 m w1 (by omega) hm0 (by omega) (H1.out.below' xb hB)).mono ?_
  rintro e w2 ⟨rfl, rfl⟩
  have XB := Lib.hid xb
  clear xb
  go_wp2_with fail
  go_at_call 30
  refine (heldIntS_any B A2 c2 n2 (m + 2 * (n1 : Int)) w1 (by omega) (by omega) (by omega) (H2.out.below' XB.out hB)).mono ?_
  rintro e w3 ⟨rfl, rfl⟩
  go_wp2
  go_ret
  exact ⟨rfl, XB.out⟩
end Go.Proofs.Ytbbjgcagkmlngab
/- Small lemmas of the laws' walks. -/
namespace Go.Proofs.Ytbbjgcagkmlngab
open Go.RowKit
theorem eqI_refl (l : List Int) : eqI l l = true := by simp [eqI]
theorem bDrewN {B : Nat} {w w' : World} (h : Below B w w') (n : Nat) : Below B w (w'.drewN n) := h.trans ⟨rfl, rfl, rfl, Nat.le_refl _, fun _ _ => rfl⟩
theorem own_rd_marks {w : World} {B c n : Nat} {A : Option Addr} {m : Int} (h : OwI w B (.slice A n c) (marksI m n)) : Rd w w.heap.size 1 A n ((marksI m n).map I) := by
  have h' : w.ownsRow _ _ _ _ _ _ := h
  rw [marksI_length] at h'
  exact Rd.of_own h'
end Go.Proofs.Ytbbjgcagkmlngab
/- Small lemmas of the laws' walks, of plans that are answered. -/
namespace Go.Proofs.Ytbbjgcagkmlngab
open Go.ChangeShapes Go.WideShapes Go.ChangeAt Go.RowKit Go.Deep Go.Joins
theorem own_rd_marksS {w : World} {B c n : Nat} {A : Option Addr} {m : Int} (h : OwS w B (.slice A n c) (marksS m n)) : Rd w w.heap.size 2 A n (fl (marksS m n)) := by
  have h' : w.ownsRow _ _ _ _ _ _ := h
  rw [marksS_length] at h'
  exact Rd.of_own h'
set_option maxRecDepth 100000 in
theorem open_list {H : Type} {enc : TypeId × Value → H} {W : World} {base : Nat} {spare : Nat → Bool} {held : Bool} {v : Value} {d : DataW H} {p : List MemPlace} {b0 : Nat} {r : Reach} (hv : Value.okWide Try.prog W r b0 22 v) (h : DataW.Trod enc Try.prog W base spare held 22 v d p) :
    ∃ (A : Option Addr) (c : Nat) (l : List Int), v = .slice A l.length c ∧ l.length ≤ 9223372036854775807 ∧ Rd W W.heap.size 1 A l.length (l.map I) := by
  obtain ⟨A0, n0, c0, rfl⟩ := okWide_slice Try.underlying22 hv
  obtain ⟨fuel, hf⟩ := h
  obtain ⟨A, c, l, e, h1, h2⟩ := open_ints_rd hf
  exact ⟨A, c, l, e, by unfold maxLen at h1; exact h1, h2⟩
end Go.Proofs.Ytbbjgcagkmlngab
/- Small lemmas of the laws over lists. -/
namespace Go.Proofs.Ytbbjgcagkmlngab
open Go.ChangeShapes Go.WideShapes Go.ChangeAt Go.RowKit Go.Deep Go.Joins
theorem OwI.cap {w : World} {B c n : Nat} {A : Option Addr} {l : List Int} (h : OwI w B (.slice A n c) l) : l.length ≤ c := by
  obtain ⟨A', c', e, hc⟩ := own_form h
  simp only [Value.slice.injEq] at e
  obtain ⟨_, _, rfl⟩ := e
  exact hc
/-- Two rows, the one made behind the other, lie apart. -/
theorem own_apart {w0 w : World} {B B' sz sz' n n' : Nat} {e e' : TypeId} {v v' : Value} {xs xs' : List Value} (h : w0.ownsRow B e sz v n xs) (h' : w.ownsRow B' e' sz' v' n' xs') (hB : w0.heap.size ≤ B') : v'.ownBlock = none ∨ v'.ownBlock ≠ v.ownBlock := by
  cases hv : v'.ownBlock with
  | none => exact .inl rfl
  | some k =>
    right
    intro hh
    have h1 := (own_block h' k hv).1
    have h2 := (own_block h k hh.symm).2
    omega
end Go.Proofs.Ytbbjgcagkmlngab
/- The program's sums of a number. -/
namespace Go.Proofs.Ytbbjgcagkmlngab
open Go.RowKit

theorem Rd.take {w : World} {B : Nat} {A : Option Addr} {l : List Int} (h : Rd w B 1 A l.length (l.map I)) {n : Nat} (hn : n ≤ l.length) : Rd w B 1 A n ((l.take n).map I) := by
  refine ⟨by simp; omega, fun h0 => ?_⟩
  obtain ⟨b, off, e, hb, hc⟩ := h.2 (by omega)
  refine ⟨b, off, e, hb, fun j hj => ?_⟩
  rw [hc j (by omega), List.map_take, List.getElem?_take]
  simp [show j < n by omega]
theorem asc_take {l : List Int} (h : Asc l) (n : Nat) : Asc (l.take n) := by
  intro i j hij hj
  rw [List.length_take] at hj
  have e : ∀ t, t < n → t < l.length → (l.take n).getD t 0 = l.getD t 0 := fun t h1 h2 => by simp [h1, h2]
  rw [e i (by omega) (by omega), e j (by omega) (by omega)]
  exact h i j hij (by omega)

end Go.Proofs.Ytbbjgcagkmlngab
/- Whether a list is a chain, and its steps, by the program. -/
namespace Go.Proofs.Ytbbjgcagkmlngab
open Go.RowKit

/-- The steps that are answered: of no chain none. -/
def chS (l : List Int) : List (Int × Int) := if chG l then stepsK l l.length else []
theorem chS_true {l : List Int} (h : chG l = true) : chS l = stepsK l l.length := by unfold chS; rw [if_pos h]
theorem chS_false {l : List Int} (h : chG l = false) : chS l = [] := by unfold chS; rw [h]; rfl
theorem chS_le (l : List Int) : (chS l).length ≤ 1000 := by
  unfold chS
  split
  · rename_i h
    rw [stepsK_length]
    have := (chG_chn h).most
    omega
  · simp
theorem may_false {l : List Int} {k : Nat} (hk : k + 1 < l.length) (h : l.getD (k + 1) 0 ≤ l.getD k 0) : chB l = false := by
  unfold chB
  rw [risB_false (l := l) (lo := 1) (hi := 1000000) (k := k + 1) l.length hk (by
    rw [show k + 1 - 1 = k from rfl]
    have h1 : decide (l.getD k 0 < l.getD (k + 1) 0) = false := by rw [decide_eq_false_iff_not]; omega
    rw [h1]
    simp), Bool.and_false]
theorem may_end {l : List Int} (h1 : 1 ≤ l.length) (h2 : l.length ≤ 41) (h3 : l.getD 0 0 = 1) (h : ∀ i, i + 1 < l.length → l.getD i 0 < l.getD (i + 1) 0) : chB l = decide (l.getD (l.length - 1) 0 ≤ 1000000) := by
  have hup : ∀ j, j < l.length → ∀ i, i ≤ j → l.getD i 0 ≤ l.getD j 0 := by
    intro j
    induction j with
    | zero => intro _ i hi; rw [show i = 0 by omega]; exact Int.le_refl _
    | succ j ih =>
      intro hj i hi
      rcases Nat.lt_or_eq_of_le hi with hi | rfl
      · have := ih (by omega) i (by omega)
        have := h j hj
        omega
      · exact Int.le_refl _
  by_cases hle : l.getD (l.length - 1) 0 ≤ 1000000
  · rw [decide_eq_true hle]
    unfold chB
    rw [risB_of l.length (fun i hi => ⟨by have := hup i hi 0 (by omega); rw [h3] at this; exact this, by have := hup (l.length - 1) (by omega) i (by omega); omega⟩) h, h3]
    unfold inB
    rw [decide_eq_true (show (1 : Int) ≤ ((l.length : Nat) : Int) by omega), decide_eq_true (show ((l.length : Nat) : Int) ≤ 41 by omega)]
    rfl
  · rw [decide_eq_false hle]
    unfold chB
    rw [risB_false (l := l) (lo := 1) (hi := 1000000) (k := l.length - 1) l.length (by omega) (by
      unfold inB
      rw [decide_eq_false hle]
      simp), Bool.and_false]

/-- The last number of a list. -/
theorem endOf_any (B : Nat) (A : Option Addr) (c : Nat) (l : List Int) (w : World) (h1 : 1 ≤ l.length) (hl : l.length ≤ 1048576) (hr : Rd w B 1 A l.length (l.map I)) :
    Calls Try.prog 117 #[.slice A l.length c] w fun e w' => e = .returned (.int .i64 (l.getD (l.length - 1) 0)) ∧ w' = w := by
  obtain ⟨b, off, rfl, hbB, hc⟩ := hr.cells (by omega)
  have c1 := hc (l.length - 1) (by omega)
  obtain ⟨N, hN⟩ : ∃ N, l.length = N + 1 := ⟨l.length - 1, by omega⟩
  have hsub : IntKind.i64.wrap ((l.length : Int) - 1) = (N : Int) := by rw [IntWalk.i64_in _ (by omega)]; omega
  rw [show l.length - 1 = N by omega] at c1 ⊢
  have i1 : (N : Int) < (l.length : Int) := by omega
  obtain ⟨y, hy⟩ : ∃ y, l.getD N 0 = y := ⟨_, rfl⟩
  rw [hy] at c1 ⊢
  clear hc hr hy hN
  go_enter Try.func117, Try.ntmps117
  go_wp2
  go_ret
  exact ⟨rfl, rfl⟩

end Go.Proofs.Ytbbjgcagkmlngab
/- Copies of lists of integers. -/
namespace Go.Proofs.Ytbbjgcagkmlngab
open Go.RowKit

theorem eq_nil_I (A : Option Addr) (n c : Nat) (W : World) : (binOp .eql 22 (.slice A n c) (.slice none 0 0)).run Try.prog W = .ok (.bool A.isNone) W := by
  simp only [binOp]
  simp [run_equal_slice_nil W 22 3 A n c Try.underlying22]
theorem Rd.addr {w : World} {B : Nat} {A : Option Addr} {l : List Int} (h : Rd w B 1 A l.length (l.map I)) (h0 : 0 < l.length) : ∃ a, A = some a := by
  obtain ⟨b, off, e, _⟩ := h.2 (by omega)
  exact ⟨_, e⟩
set_option maxRecDepth 100000 in
set_option maxHeartbeats 1000000 in
theorem cloneI_any (B : Nat) (A : Option Addr) (c : Nat) (l : List Int) (w : World) (hm : l.length ≤ 1000000) (h0 : 0 < l.length) (hB : B ≤ w.heap.size) (hr : Rd w B 1 A l.length (l.map I)) :
    Calls Try.prog 110 #[.slice A l.length c] w fun e w' => ∃ A' c', e = .returned (.slice A' l.length c') ∧ OwI w' w.heap.size (.slice A' l.length c') l ∧ Below w.heap.size w w' := by
  obtain ⟨ad, rfl⟩ := hr.addr h0
  have H := Lib.hid hr
  clear hr
  have hnil := fun W => eq_nil_I (some ad) l.length c W
  go_enter Try.func110, Try.ntmps110
  go_wp2_with (first
    | (at_builtin; refine list_step (fun K hK => ?_); refine step_appM Try.underlying22 info_int rfl (by omega) (by omega) rfl (.tmp 5) (.tmp 6) rfl w.heap.size 0 _ [] rfl (own_empty 1 (Nat.le_refl _)) _ l.length c (l.map I) rfl (H.out.alloc hB _) (ints_one l) (by omega) (by simp) ?_; intro A2 c2 w2 hown2 hg2 hbel2; go_simp; refine hK _ _ ?_; clear hK K))
  go_ret
  simp only [Nat.zero_add, List.nil_append] at hown2
  exact ⟨A2, c2, by simp, hown2, ((Below.refl _ _).alloc (Nat.le_refl _) _).trans hbel2⟩
end Go.Proofs.Ytbbjgcagkmlngab
/- New numbers of values: what they are; the model's small functions. -/
namespace Go.Proofs.Ytbbjgcagkmlngab
open Go.RowKit

def plc : List Int → Int → Nat → Int
  | [], _, _ => -1
  | x :: l, n, k => if x == n then (k : Int) else plc l n (k + 1)
theorem plc_app (l r : List Int) (n : Int) (k : Nat) : plc (l ++ r) n k = if hasI l n then plc l n k else plc r n (k + l.length) := by
  induction l generalizing k with
  | nil => simp [hasI]
  | cons x l ih =>
    by_cases h : x = n
    · subst h
      simp [plc, hasI]
    · have h1 : (x == n) = false := by simpa using h
      have h2 : hasI (x :: l) n = hasI l n := by
        unfold hasI
        rw [Bool.eq_iff_iff]
        simp
        intro e
        exact absurd e.symm h
      simp only [List.cons_append, plc, h1, h2, Bool.false_eq_true, if_false]
      rw [ih]
      simp only [List.length_cons]
      rw [show k + 1 + l.length = k + (l.length + 1) by omega]
theorem plc_none {l : List Int} {n : Int} (h : hasI l n = false) (k : Nat) : plc l n k = -1 := by
  have h1 := plc_app l [] n k
  rw [List.append_nil, h] at h1
  rw [h1]
  rfl
theorem plc_bd (l : List Int) (n : Int) (k : Nat) : -1 ≤ plc l n k ∧ plc l n k < k + l.length + 1 := by
  induction l generalizing k with
  | nil => simp [plc]; omega
  | cons x l ih =>
    unfold plc
    split
    · simp only [List.length_cons]; omega
    · have := ih (k + 1)
      simp only [List.length_cons]
      omega
theorem plc_nonneg {l : List Int} {n : Int} (h : hasI l n = true) (k : Nat) : (k : Int) ≤ plc l n k := by
  induction l generalizing k with
  | nil => simp [hasI] at h
  | cons x l ih =>
    unfold plc
    split
    · omega
    · rename_i hx
      have h2 : hasI l n = true := by
        unfold hasI at h ⊢
        simp at h hx ⊢
        rcases h with h | h
        · exact absurd h.symm hx
        · exact h
      have := ih h2 (k + 1)
      omega
theorem plc_hit {l : List Int} {n : Int} {k : Nat} (hk : k < l.length) (hq : hasI (l.take k) n = false) (h : (l[k] == n) = true) : plc l n 0 = k := by
  have e : l = l.take k ++ l[k] :: l.drop (k + 1) := by simp
  have h1 := plc_app (l.take k) (l[k] :: l.drop (k + 1)) n 0
  rw [← e, hq] at h1
  rw [h1]
  simp only [Bool.false_eq_true, if_false, plc, h, if_true]
  simp
  omega

def numI (N : Nat) (l : List Int) (v : Int) : Int := if v < N then v else N + plc l (v - N) 0
def stI (a b : Int) : Int × Int := (leastI a b, mostI a b)
def keepS (p : Pl) (N : Nat) (l : List Int) (k : Nat) : List (Int × Int) := (l.take k).map fun i => stI (numI N l (p.s.getD i.toNat (0, 0)).1) (numI N l (p.s.getD i.toNat (0, 0)).2)
def keepO (p : Pl) (N : Nat) (l : List Int) (k : Nat) : List Int := (p.o.take k).map (numI N l)
theorem keepS_len (p : Pl) (N : Nat) (l : List Int) {k : Nat} (hk : k ≤ l.length) : (keepS p N l k).length = k := by simp [keepS]; omega
theorem keepO_len (p : Pl) (N : Nat) (l : List Int) {k : Nat} (hk : k ≤ p.o.length) : (keepO p N l k).length = k := by simp [keepO]; omega
theorem keepS_succ {p : Pl} {N : Nat} {l : List Int} {k n : Nat} (hk : k < l.length) (hn : l[k] = (n : Int)) (hns : n < p.s.length) : keepS p N l (k + 1) = keepS p N l k ++ [stI (numI N l (p.s[n]).1) (numI N l (p.s[n]).2)] := by
  unfold keepS
  rw [List.take_succ_eq_append_getElem hk, List.map_append, hn]
  simp [hns]
theorem keepO_succ {p : Pl} {N : Nat} {l : List Int} {k : Nat} (hk : k < p.o.length) : keepO p N l (k + 1) = keepO p N l k ++ [numI N l p.o[k]] := by
  unfold keepO
  rw [List.take_succ_eq_append_getElem hk, List.map_append]
  rfl
theorem numI_bd {N : Nat} {l : List Int} {v : Int} (h6 : N ≤ 6) (h0 : 0 ≤ v) : -1 ≤ numI N l v ∧ numI N l v ≤ N + l.length := by
  unfold numI
  split
  · omega
  · have := plc_bd l (v - N) 0
    omega

set_option maxHeartbeats 400000 in
theorem plPlace_any (B : Nat) (A : Option Addr) (c : Nat) (l : List Int) (n : Int) (w : World) (hm : l.length ≤ 4000000) (hr : Rd w B 1 A l.length (l.map I)) :
    Calls Try.prog 141 #[.slice A l.length c, .int .i64 n] w fun e w' => e = .returned (.int .i64 (plc l n 0)) ∧ w = w' := by
  have H := Lib.hid hr
  clear hr
  go_enter Try.func141, Try.ntmps141
  go_wp2
  go_loop [9] (fun i => ∃ k : Nat, k ≤ l.length ∧ i = .int .i64 k ∧ hasI (l.take k) n = false) (fun i => l.length - (intOf i).toNat)
  case atStart => exact ⟨0, by omega, rfl, rfl⟩
  case round =>
    obtain ⟨k, hk, rfl, hq⟩ := hrel
    have Q := Lib.hid hq
    clear hq
    by_cases hlt : k < l.length
    · obtain ⟨b, off, rfl, hb, hcell⟩ := H.out.int hlt
      go_wp2
      · go_ret
        exact ⟨ret_int (plc_hit hlt Q.out (by assumption)).symm, rfl⟩
      · have hne : (l[k] == n) = false := by assumption
        go_round
        case rel => exact ⟨k + 1, by omega, by go_num, by rw [hasI_take hlt Q.out]; exact hne⟩
        case measure => simp [intOf]; omega
    · have hk' : k = l.length := by omega
      have hq := Q.out
      rw [hk', List.take_of_length_le (Nat.le_refl _)] at hq
      have e := plc_none hq 0
      have E := Lib.hid e
      clear hq e hk'
      go_wp2
      go_ret
      exact ⟨ret_int E.out.symm, rfl⟩

set_option maxHeartbeats 400000 in
theorem plStep_any (a b : Int) (w : World) :
    Calls Try.prog 93 #[.int .i64 a, .int .i64 b] w fun e w' => e = .returned (.agg #[.int .i64 (leastI a b), .int .i64 (mostI a b)]) ∧ Below w.heap.size w w' := by
  go_enter Try.func93, Try.ntmps93
  go_wp2_with (first | (go_at_call 140; refine (l1Least_any _ _ _).mono ?_; rintro e w' ⟨rfl, rfl⟩) | (go_at_call 92; refine (l1Most_any _ _ _).mono ?_; rintro e w' ⟨rfl, rfl⟩))
  refine bodyPost_ret (v := .agg #[.int .i64 (leastI a b), .int .i64 (mostI a b)]) (by simp [results, Try.results93, go_sem]) rfl ⟨rfl, ?_⟩
  exact (Below.refl _ _).alloc (Nat.le_refl _) _
end Go.Proofs.Ytbbjgcagkmlngab
/- New numbers of values: the program's small functions. -/
namespace Go.Proofs.Ytbbjgcagkmlngab
open Go.RowKit

def ups (n : Nat) : List Int := (List.range n).map fun i : Nat => (i : Int)
theorem ups_length (n : Nat) : (ups n).length = n := by simp [ups]
theorem ups_succ (n : Nat) : ups (n + 1) = ups n ++ [(n : Int)] := by
  unfold ups
  rw [List.range_succ, List.map_append]
  rfl
/-- One more cell of a row that is being filled. -/
theorem fill_next (l : List Int) (x : Int) {n k : Nat} (hl : l.length = k) (hk : k < n) :
    (l.map I ++ List.replicate (n - k) (I 0)).set k (I x) = (l ++ [x]).map I ++ List.replicate (n - (k + 1)) (I 0) := by
  rw [List.set_append_right _ _ (by simp; omega), List.length_map, hl, Nat.sub_self, show n - k = (n - (k + 1)) + 1 from by omega, List.replicate_succ, List.set_cons_zero]
  simp
theorem zeros_row {w : World} {B : Nat} (n : Nat) (hn : n ≤ 1000) (hB : B ≤ w.heap.size) :
    (w.alloc (.cells (madeCells #[Value.int .i64 0] n) 3)).ownsRow B 3 1 (.slice (some ⟨w.heap.size, 0, none⟩) n n) n (List.replicate n (I 0)) := by
  have h := World.ownsRow_lit (base := B) (e := 3) (size := 1) w (madeCells #[Value.int .i64 0] n) n hB (by unfold maxLen; omega) (by simp [size_madeCells])
  rw [toList_madeCells_one] at h
  exact h

set_option maxRecDepth 100000 in
set_option maxHeartbeats 1000000 in
theorem renamed_any (B : Nat) (A A' : Option Addr) (c c' : Nat) (o nm : List Int) (w : World) (hm : o.length ≤ 1000) (hB : B ≤ w.heap.size) (hin : ∀ x ∈ o, 0 ≤ x ∧ x < nm.length) (hr : Rd w B 1 A o.length (o.map I)) (hr' : Rd w B 1 A' nm.length (nm.map I)) :
    Calls Try.prog 98 #[.slice A o.length c, .slice A' nm.length c'] w fun e w' => ∃ A2 c2, e = .returned (.slice A2 o.length c2) ∧ OwI w' w.heap.size (.slice A2 o.length c2) (o.map fun x => nm.getD x.toNat 0) ∧ Below w.heap.size w w' := by
  have H := Lib.hid hr
  have H' := Lib.hid hr'
  have HIN := Lib.hid hin
  clear hr hr' hin
  have hmk := run_make_row' (P := Try.prog) 22 3 (.int .i64 0) 8 Try.underlying22 info_int rfl .i64 .i64 o.length (by omega) (by omega)
  go_enter Try.func98, Try.ntmps98
  go_wp2
  clear hmk
  generalize hw2 : World.alloc w _ = w2
  have hmade : w2.ownsRow w.heap.size 3 1 (.slice (some ⟨w.heap.size, 0, none⟩) o.length o.length) o.length (List.replicate o.length (I 0)) := by rw [← hw2]; exact zeros_row o.length hm (Nat.le_refl _)
  have hb2 : Below w.heap.size w w2 := by rw [← hw2]; exact (Below.refl _ _).alloc (Nat.le_refl _) _
  clear hw2
  have HM := Lib.hid hmade
  have HB2 := Lib.hid hb2
  clear hmade hb2
  go_loopw [13] (fun i wr => ∃ k : Nat, k ≤ o.length ∧ i = .int .i64 k ∧ wr.ownsRow w.heap.size 3 1 (.slice (some ⟨w.heap.size, 0, none⟩) o.length o.length) o.length (((o.take k).map fun x => nm.getD x.toNat 0).map I ++ List.replicate (o.length - k) (I 0)) ∧ Below w.heap.size w wr) (fun i _ => o.length - (intOf i).toNat)
  case atStart => exact ⟨0, by omega, rfl, by simpa using HM.out, HB2.out⟩
  case round =>
    obtain ⟨k, hk, rfl, hown, hbel⟩ := hrel
    have OWN := Lib.hid hown
    have BEL := Lib.hid hbel
    by_cases hlt : k < o.length
    · obtain ⟨ob, oo, rfl, hob, hoc⟩ := (H.out.below' hbel hB).int hlt
      obtain ⟨q1, q2⟩ := HIN.out _ (List.getElem_mem hlt)
      obtain ⟨v, hv⟩ : ∃ v : Nat, o[k] = v := ⟨(o[k]).toNat, by omega⟩
      rw [hv] at hoc q2
      have hvl : v < nm.length := by omega
      obtain ⟨nb, no, rfl, hnb, hnc⟩ := (H'.out.below' hbel hB).int hvl
      have hkl : (List.map I (List.map (fun x => nm.getD x.toNat 0) (List.take k o))).length = k := by simp; omega
      have hc : wr.cell? ⟨w.heap.size, k, none⟩ = some (I 0) := by
        rw [hown.cellAt _ (by omega)]
        exact rep_at (by omega) (by omega)
      have hf : wr.frozen? ⟨w.heap.size, k, none⟩ = false := hown.frozenAt _
      have HV := Lib.hid hv
      clear hown hbel hkl hv q1
      go_wp2
      go_roundw
      case rel =>
        refine ⟨k + 1, by omega, by go_num, ?_, BEL.out.setCell (Nat.le_refl _) _⟩
        have h := (OWN.out.stored k (I nm[v])).1
        rw [fill_next _ nm[v] (by simp; omega) hlt] at h
        have e : (List.take (k + 1) o).map (fun x => nm.getD x.toNat 0) = (List.take k o).map (fun x => nm.getD x.toNat 0) ++ [nm[v]] := by
          rw [List.take_succ_eq_append_getElem hlt, List.map_append, HV.out]
          simp [hvl]
        rw [e]
        exact h
      case measure => simp [intOf]; omega
    · have hk' : k = o.length := by omega
      subst hk'
      clear hown hbel
      go_wp2
      go_ret
      have h := OWN.out
      rw [List.take_of_length_le (Nat.le_refl _)] at h
      refine ⟨_, _, rfl, ?_, BEL.out⟩
      show World.ownsRow _ _ _ _ _ _ _
      rw [List.length_map]
      simpa using h


set_option maxRecDepth 100000 in
set_option maxHeartbeats 1000000 in
theorem renamedStep_any (B a b : Nat) (A : Option Addr) (c : Nat) (nm : List Int) (w : World) (hB : B ≤ w.heap.size) (ha : a < nm.length) (hb : b < nm.length) (hr : Rd w B 1 A nm.length (nm.map I)) :
    Calls Try.prog 143 #[.agg #[.int .i64 (a : Int), .int .i64 (b : Int)], .slice A nm.length c] w fun e w' => e = .returned (.agg #[.int .i64 (leastI nm[a] nm[b]), .int .i64 (mostI nm[a] nm[b])]) ∧ Below w.heap.size w w' := by
  obtain ⟨nb, no, rfl, hnb, hca⟩ := hr.int ha
  obtain ⟨nb', no', h2, _, hcb⟩ := hr.int hb
  obtain ⟨rfl, rfl⟩ : nb = nb' ∧ no = no' := by
    injection h2 with h2
    injection h2 with e1 e2
    exact ⟨e1, e2⟩
  have ia : (a : Int) < (nm.length : Int) := by omega
  have ib : (b : Int) < (nm.length : Int) := by omega
  clear hr h2
  obtain ⟨x, hx⟩ : ∃ x, nm[a] = x := ⟨_, rfl⟩
  obtain ⟨y, hy⟩ : ∃ y, nm[b] = y := ⟨_, rfl⟩
  rw [hx] at hca
  rw [hy] at hcb
  rw [hx, hy]
  clear hx hy
  have hcases : (x < y ∧ leastI x y = x ∧ mostI x y = y) ∨ (x = y ∧ leastI x y = x ∧ mostI x y = x) ∨ (y < x ∧ leastI x y = y ∧ mostI x y = x) := by
    unfold leastI mostI
    split <;> split <;> omega
  rcases hcases with ⟨hlt, e1, e2⟩ | ⟨hlt, e1, e2⟩ | ⟨hlt, e1, e2⟩
  · rw [e1, e2]
    clear e1 e2
    go_enter Try.func143, Try.ntmps143
    go_wp2
    generalize hw1 : World.alloc (World.alloc w _) _ = w1
    have q0 : w1.heap[w.heap.size]? = some (.cells #[.int .i64 (a : Int), .int .i64 (b : Int)] 114 (0, 0)) := by
      rw [← hw1, Below.heap_alloc _ _ _ (by simp)]; exact heap_alloc_new w _
    have q1 : w1.heap[w.heap.size + 1]? = some (.cells #[.int .i64 0, .int .i64 0] 114 (0, 0)) := by
      rw [← hw1]
      have := heap_alloc_new (w.alloc (.cells #[.int .i64 (a : Int), .int .i64 (b : Int)] 114)) (.cells #[.int .i64 0, .int .i64 0] 114)
      simpa using this
    have hb1 : Below w.heap.size w w1 := by rw [← hw1]; exact ((Below.refl _ _).alloc (Nat.le_refl _) _).alloc (by simp) _
    clear hw1
    have x0 : w1.cell? ⟨w.heap.size, 0, none⟩ = some (.int .i64 (a : Int)) := by rw [cell_of_row w1 _ 0 _ _ (0, 0) q0]; rfl
    have x1 : w1.cell? ⟨w.heap.size, 1, none⟩ = some (.int .i64 (b : Int)) := by rw [cell_of_row w1 _ 1 _ _ (0, 0) q0]; rfl
    have y0 : w1.cell? ⟨w.heap.size + 1, 0, none⟩ = some (.int .i64 0) := by rw [cell_of_row w1 _ 0 _ _ (0, 0) q1]; rfl
    have y1 : w1.cell? ⟨w.heap.size + 1, 1, none⟩ = some (.int .i64 0) := by rw [cell_of_row w1 _ 1 _ _ (0, 0) q1]; rfl
    have g0 : w1.frozen? ⟨w.heap.size + 1, 0, none⟩ = false := frozen_of_row w1 _ 0 _ _ q1
    have g1 : w1.frozen? ⟨w.heap.size + 1, 1, none⟩ = false := frozen_of_row w1 _ 1 _ _ q1
    have za : w1.cell? ⟨nb, no + a, none⟩ = _ := (hb1.cell (p := ⟨nb, no + a, none⟩) (by simp only []; omega)).trans hca
    have zb : w1.cell? ⟨nb, no + b, none⟩ = _ := (hb1.cell (p := ⟨nb, no + b, none⟩) (by simp only []; omega)).trans hcb
    have HB1 := Lib.hid hb1
    clear q0 q1 hca hcb hb1
    refine wp_region_Tw [0, 1, 2, 3, 4, 5, 6, 7, 8, 9, 10, 11] [2, 4, 7, 9] (.lp 0 (.lp 1 (.lp 5 (.lp 6 (.ls 2 (.lp 3 (.ls 4 (.lp 10 (.ls 7 (.lp 8 (.ls 9 (.lp 11 (.done))))))))))))) (by kernel_rfl) (by kernel_rfl) ?_
    (repeat (first | (refine T_lp rfl (fun K hK => ?_); go_simp; refine hK _ ?_; clear hK K) | (refine T_ls rfl rfl (fun K hK => ?_); go_simp; refine hK _ ?_; clear hK K)))
    refine T_done ?_
    go_wp2
    refine bodyPost_ret (v := .agg #[.int .i64 x, .int .i64 y]) (by simp [results, Try.results143, go_sem, y0, y1]) rfl ⟨rfl, ?_⟩
    exact ((HB1.out.setCell (by simp) _).setCell (by simp) _).drew
  · rw [e1, e2]
    clear e1 e2
    subst hlt
    go_enter Try.func143, Try.ntmps143
    go_wp2
    generalize hw1 : World.alloc (World.alloc w _) _ = w1
    have q0 : w1.heap[w.heap.size]? = some (.cells #[.int .i64 (a : Int), .int .i64 (b : Int)] 114 (0, 0)) := by
      rw [← hw1, Below.heap_alloc _ _ _ (by simp)]; exact heap_alloc_new w _
    have q1 : w1.heap[w.heap.size + 1]? = some (.cells #[.int .i64 0, .int .i64 0] 114 (0, 0)) := by
      rw [← hw1]
      have := heap_alloc_new (w.alloc (.cells #[.int .i64 (a : Int), .int .i64 (b : Int)] 114)) (.cells #[.int .i64 0, .int .i64 0] 114)
      simpa using this
    have hb1 : Below w.heap.size w w1 := by rw [← hw1]; exact ((Below.refl _ _).alloc (Nat.le_refl _) _).alloc (by simp) _
    clear hw1
    have x0 : w1.cell? ⟨w.heap.size, 0, none⟩ = some (.int .i64 (a : Int)) := by rw [cell_of_row w1 _ 0 _ _ (0, 0) q0]; rfl
    have x1 : w1.cell? ⟨w.heap.size, 1, none⟩ = some (.int .i64 (b : Int)) := by rw [cell_of_row w1 _ 1 _ _ (0, 0) q0]; rfl
    have y0 : w1.cell? ⟨w.heap.size + 1, 0, none⟩ = some (.int .i64 0) := by rw [cell_of_row w1 _ 0 _ _ (0, 0) q1]; rfl
    have y1 : w1.cell? ⟨w.heap.size + 1, 1, none⟩ = some (.int .i64 0) := by rw [cell_of_row w1 _ 1 _ _ (0, 0) q1]; rfl
    have g0 : w1.frozen? ⟨w.heap.size + 1, 0, none⟩ = false := frozen_of_row w1 _ 0 _ _ q1
    have g1 : w1.frozen? ⟨w.heap.size + 1, 1, none⟩ = false := frozen_of_row w1 _ 1 _ _ q1
    have za : w1.cell? ⟨nb, no + a, none⟩ = _ := (hb1.cell (p := ⟨nb, no + a, none⟩) (by simp only []; omega)).trans hca
    have zb : w1.cell? ⟨nb, no + b, none⟩ = _ := (hb1.cell (p := ⟨nb, no + b, none⟩) (by simp only []; omega)).trans hcb
    have HB1 := Lib.hid hb1
    clear q0 q1 hca hcb hb1
    refine wp_region_Tw [0, 1, 2, 3, 4, 5, 6, 7, 8, 9, 10, 11] [2, 4, 7, 9] (.lp 0 (.lp 1 (.lp 5 (.lp 6 (.ls 2 (.lp 3 (.ls 4 (.lp 10 (.ls 7 (.lp 8 (.ls 9 (.lp 11 (.done))))))))))))) (by kernel_rfl) (by kernel_rfl) ?_
    (repeat (first | (refine T_lp rfl (fun K hK => ?_); go_simp; refine hK _ ?_; clear hK K) | (refine T_ls rfl rfl (fun K hK => ?_); go_simp; refine hK _ ?_; clear hK K)))
    refine T_done ?_
    go_wp2
    refine bodyPost_ret (v := .agg #[.int .i64 x, .int .i64 x]) (by simp [results, Try.results143, go_sem, y0, y1]) rfl ⟨rfl, ?_⟩
    exact ((HB1.out.setCell (by simp) _).setCell (by simp) _).drew
  · rw [e1, e2]
    clear e1 e2
    go_enter Try.func143, Try.ntmps143
    go_wp2
    generalize hw1 : World.alloc (World.alloc w _) _ = w1
    have q0 : w1.heap[w.heap.size]? = some (.cells #[.int .i64 (a : Int), .int .i64 (b : Int)] 114 (0, 0)) := by
      rw [← hw1, Below.heap_alloc _ _ _ (by simp)]; exact heap_alloc_new w _
    have q1 : w1.heap[w.heap.size + 1]? = some (.cells #[.int .i64 0, .int .i64 0] 114 (0, 0)) := by
      rw [← hw1]
      have := heap_alloc_new (w.alloc (.cells #[.int .i64 (a : Int), .int .i64 (b : Int)] 114)) (.cells #[.int .i64 0, .int .i64 0] 114)
      simpa using this
    have hb1 : Below w.heap.size w w1 := by rw [← hw1]; exact ((Below.refl _ _).alloc (Nat.le_refl _) _).alloc (by simp) _
    clear hw1
    have x0 : w1.cell? ⟨w.heap.size, 0, none⟩ = some (.int .i64 (a : Int)) := by rw [cell_of_row w1 _ 0 _ _ (0, 0) q0]; rfl
    have x1 : w1.cell? ⟨w.heap.size, 1, none⟩ = some (.int .i64 (b : Int)) := by rw [cell_of_row w1 _ 1 _ _ (0, 0) q0]; rfl
    have y0 : w1.cell? ⟨w.heap.size + 1, 0, none⟩ = some (.int .i64 0) := by rw [cell_of_row w1 _ 0 _ _ (0, 0) q1]; rfl
    have y1 : w1.cell? ⟨w.heap.size + 1, 1, none⟩ = some (.int .i64 0) := by rw [cell_of_row w1 _ 1 _ _ (0, 0) q1]; rfl
    have g0 : w1.frozen? ⟨w.heap.size + 1, 0, none⟩ = false := frozen_of_row w1 _ 0 _ _ q1
    have g1 : w1.frozen? ⟨w.heap.size + 1, 1, none⟩ = false := frozen_of_row w1 _ 1 _ _ q1
    have za : w1.cell? ⟨nb, no + a, none⟩ = _ := (hb1.cell (p := ⟨nb, no + a, none⟩) (by simp only []; omega)).trans hca
    have zb : w1.cell? ⟨nb, no + b, none⟩ = _ := (hb1.cell (p := ⟨nb, no + b, none⟩) (by simp only []; omega)).trans hcb
    have HB1 := Lib.hid hb1
    clear q0 q1 hca hcb hb1
    refine wp_region_Tw [0, 1, 2, 3, 4, 5, 6, 7, 8, 9, 10, 11] [2, 4, 7, 9] (.lp 0 (.lp 1 (.lp 5 (.lp 6 (.ls 2 (.lp 3 (.ls 4 (.lp 10 (.ls 7 (.lp 8 (.ls 9 (.lp 11 (.done))))))))))))) (by kernel_rfl) (by kernel_rfl) ?_
    (repeat (first | (refine T_lp rfl (fun K hK => ?_); go_simp; refine hK _ ?_; clear hK K) | (refine T_ls rfl rfl (fun K hK => ?_); go_simp; refine hK _ ?_; clear hK K)))
    refine T_done ?_
    go_wp2
    refine bodyPost_ret (v := .agg #[.int .i64 y, .int .i64 x]) (by simp [results, Try.results143, go_sem, y0, y1]) rfl ⟨rfl, ?_⟩
    exact ((HB1.out.setCell (by simp) _).setCell (by simp) _).drew
end Go.Proofs.Ytbbjgcagkmlngab
/- Used steps, of the model and of the program. -/
namespace Go.Proofs.Ytbbjgcagkmlngab
open Go.RowKit

theorem put_below {w w2 w3 : World} {o o' : Obj} (h : Below w.heap.size (w.alloc o) w2) (h' : Below w.heap.size (w2.alloc o') w3) : Below w.heap.size w w3 := by
  have hs2 : w.heap.size ≤ w2.heap.size := by have := h.size; simp at this; omega
  exact ((((Below.refl _ _).alloc (Nat.le_refl _) _).trans h).alloc hs2 _).trans h'

set_option maxHeartbeats 1000000 in
theorem l1Put_any (B : Nat) (A : Option Addr) (c : Nat) (l : List Int) (n : Int) (w : World) (hm : l.length ≤ 1000000) (hB : B ≤ w.heap.size) (hlt : ∀ x ∈ l, n < x) (hcap : l.length ≤ c) (hr : Rd w B 1 A l.length (l.map I)) :
    Calls Try.prog 132 #[.slice A l.length c, .int .i64 n] w fun e w' => ∃ A' c', e = .returned (.slice A' (l.length + 1) c') ∧ OwI w' w.heap.size (.slice A' (l.length + 1) c') (n :: l) ∧ Below w.heap.size w w' := by
  have H := Lib.hid hr
  have HLT := Lib.hid hlt
  clear hr hlt
  go_enter Try.func132, Try.ntmps132
  go_wp2
  go_loop [5] (fun i => i = .int .i64 0) (fun _ => 0)
  case atStart => rfl
  case round =>
    subst hrel
    by_cases hl : 0 < l.length
    · obtain ⟨b, off, rfl, hb, hcell⟩ := H.out.int hl
      rw [Nat.add_zero] at hcell
      have h1 := HLT.out _ (List.getElem_mem hl)
      have h2 : ¬ l[0] < n := by omega
      have h3 : ¬ l[0] = n := by omega
      have i0 : (0 : Int) < (l.length : Int) := by omega
      go_wp2_with (first
        | (at_builtin; refine list_step (fun K hK => ?_); refine step_appM Try.underlying22 info_int rfl (by omega) (by omega) rfl (.tmp 34) (.tmp 37) rfl w.heap.size 0 _ [] rfl (own_empty 1 (Nat.le_refl _)) _ 0 _ [] rfl (Rd.nil _ 0 _ _) (by simp) (by omega) (by simp) ?_; intro A2 c2 w2 hown2 hg2 hbel2; go_simp; refine hK _ _ ?_; clear hK K)
        | (at_builtin; refine list_step (fun K hK => ?_); refine step_app1 Try.underlying22 info_int rfl (by omega) rfl (.tmp 39) (.tmp 41) rfl w.heap.size 0 _ [] rfl (World.ownsRow.alloc hown2 _) w2.heap.size 1 (I n) rfl (by simp) rfl (by omega) (by have := hbel2.size; simp at this; simp; omega) ?_; intro A3 c3 w3 hown3 hg3 hbel3; go_simp; refine hK _ _ ?_; clear hK K)
        | (at_builtin; refine list_step (fun K hK => ?_); have hb23 := put_below hbel2 hbel3; refine step_appM Try.underlying22 info_int rfl (by omega) (by omega) rfl (.tmp 43) (.tmp 46) rfl w.heap.size 1 _ _ rfl hown3 _ l.length _ (l.map I) rfl (H.out.below' hb23 hB) (ints_one l) (by omega) hb23.size ?_; intro A4 c4 w4 hown4 hg4 hbel4; go_simp; refine hK _ _ ?_; clear hK K))
      go_ret
      refine ⟨A4, c4, ret_slice (by omega), ?_, (put_below hbel2 hbel3).trans hbel4⟩
      have h := hown4
      rw [show 1 + l.length = l.length + 1 by omega] at h
      simpa [OwI] using h
    · have hl0 : l.length = 0 := by omega
      go_wp2_with (first
        | (at_builtin; refine list_step (fun K hK => ?_); refine step_appM Try.underlying22 info_int rfl (by omega) (by omega) rfl (.tmp 34) (.tmp 37) rfl w.heap.size 0 _ [] rfl (own_empty 1 (Nat.le_refl _)) _ 0 _ [] rfl (Rd.nil _ 0 _ _) (by simp) (by omega) (by simp) ?_; intro A2 c2 w2 hown2 hg2 hbel2; go_simp; refine hK _ _ ?_; clear hK K)
        | (at_builtin; refine list_step (fun K hK => ?_); refine step_app1 Try.underlying22 info_int rfl (by omega) rfl (.tmp 39) (.tmp 41) rfl w.heap.size 0 _ [] rfl (World.ownsRow.alloc hown2 _) w2.heap.size 1 (I n) rfl (by simp) rfl (by omega) (by have := hbel2.size; simp at this; simp; omega) ?_; intro A3 c3 w3 hown3 hg3 hbel3; go_simp; refine hK _ _ ?_; clear hK K)
        | (at_builtin; refine list_step (fun K hK => ?_); have hb23 := put_below hbel2 hbel3; refine step_appM Try.underlying22 info_int rfl (by omega) (by omega) rfl (.tmp 43) (.tmp 46) rfl w.heap.size 1 _ _ rfl hown3 _ 0 _ (l.map I) rfl (by have h := H.out.below' hb23 hB; rw [hl0] at h; exact h) (ints_one l) (by omega) hb23.size ?_; intro A4 c4 w4 hown4 hg4 hbel4; go_simp; refine hK _ _ ?_; clear hK K))
      go_ret
      refine ⟨A4, c4, ret_slice (by omega), ?_, (put_below hbel2 hbel3).trans hbel4⟩
      have h := hown4
      rw [show 1 + 0 = l.length + 1 by omega] at h
      show w4.ownsRow _ _ _ _ _ _
      have e1 : (n :: l).length = l.length + 1 := rfl
      rw [e1]
      first | exact h | (rw [hl0] at h ⊢; exact h)
end Go.Proofs.Ytbbjgcagkmlngab
/- Used steps: what they are, and the model's. -/
namespace Go.Proofs.Ytbbjgcagkmlngab
open Go.RowKit

def needI (N : Nat) (s : List (Int × Int)) (o : List Int) : Nat → List Int
  | 0 => o
  | j + 1 => if hasI (needI N s o j) ((N : Int) + ((s.length - 1 - j : Nat) : Int)) then needI N s o j ++ [(s.getD (s.length - 1 - j) (0, 0)).1, (s.getD (s.length - 1 - j) (0, 0)).2] else needI N s o j
def finI (N : Nat) (s : List (Int × Int)) (o : List Int) (i : Nat) : Bool := hasI (needI N s o s.length) ((N : Int) + (i : Int))
def usT (N : Nat) (s : List (Int × Int)) (o : List Int) (j : Nat) : List Int := ((List.range' (s.length - j) j).filter (finI N s o)).map fun i : Nat => (i : Int)
def usd (N : Nat) (s : List (Int × Int)) (o : List Int) : List Int := usT N s o s.length

theorem hasI_two (l : List Int) (a b x : Int) : hasI (l ++ [a, b]) x = (hasI l x || (x == a || x == b)) := by
  unfold hasI
  rw [Bool.eq_iff_iff]
  simp
theorem need_hit {N : Nat} {s : List (Int × Int)} {o : List Int} {j i : Nat} (hi : i < s.length) (hij : s.length - 1 - j = i) (h : hasI (needI N s o j) ((N : Int) + (i : Int)) = true) : needI N s o (j + 1) = needI N s o j ++ [(s[i]).1, (s[i]).2] := by
  subst hij
  simp only [needI]
  rw [if_pos h]
  simp [hi]
theorem need_miss {N : Nat} {s : List (Int × Int)} {o : List Int} {j i : Nat} (hij : s.length - 1 - j = i) (h : hasI (needI N s o j) ((N : Int) + (i : Int)) = false) : needI N s o (j + 1) = needI N s o j := by
  subst hij
  simp only [needI]
  rw [if_neg (by rw [h]; decide)]
theorem need_len (N : Nat) (s : List (Int × Int)) (o : List Int) : ∀ j, (needI N s o j).length ≤ o.length + 2 * j := by
  intro j
  induction j with
  | zero => simp [needI]
  | succ j ih =>
    simp only [needI]
    split
    · simp; omega
    · omega
theorem need_stable {N : Nat} {s : List (Int × Int)} {o : List Int} (hs : OkS N s) {j i : Nat} (hj : j < s.length) (hij : s.length - 1 - j = i) : ∀ d, j + d ≤ s.length → hasI (needI N s o (j + d)) ((N : Int) + (i : Int)) = hasI (needI N s o j) ((N : Int) + (i : Int)) := by
  intro d
  induction d with
  | zero => intro _; rfl
  | succ d ih =>
    intro hd
    have ih := ih (by omega)
    have hlt : s.length - 1 - (j + d) < s.length := by omega
    obtain ⟨h1, h2, h3⟩ := hs _ hlt
    show hasI (needI N s o (j + d + 1)) _ = _
    cases hq : hasI (needI N s o (j + d)) ((N : Int) + ((s.length - 1 - (j + d) : Nat) : Int)) with
    | true =>
      rw [need_hit hlt rfl hq, hasI_two, ih]
      have e1 : (((N : Int) + (i : Int)) == (s[s.length - 1 - (j + d)]).1) = false := by rw [beq_eq_false_iff_ne]; omega
      have e2 : (((N : Int) + (i : Int)) == (s[s.length - 1 - (j + d)]).2) = false := by rw [beq_eq_false_iff_ne]; omega
      rw [e1, e2]
      simp
    | false => rw [need_miss rfl hq, ih]
theorem fin_at {N : Nat} {s : List (Int × Int)} {o : List Int} (hs : OkS N s) {j i : Nat} (hj : j < s.length) (hij : s.length - 1 - j = i) : finI N s o i = hasI (needI N s o j) ((N : Int) + (i : Int)) := by
  have h := need_stable (o := o) hs hj hij (s.length - j) (by omega)
  rw [show j + (s.length - j) = s.length by omega] at h
  exact h
theorem us_hit {N : Nat} {s : List (Int × Int)} {o : List Int} {j i : Nat} (hj : j < s.length) (hij : s.length - 1 - j = i) (h : finI N s o i = true) : usT N s o (j + 1) = (i : Int) :: usT N s o j := by
  unfold usT
  rw [show s.length - (j + 1) = i by omega, List.range'_succ, show i + 1 = s.length - j by omega, List.filter_cons_of_pos h]
  rfl
theorem us_miss {N : Nat} {s : List (Int × Int)} {o : List Int} {j i : Nat} (hj : j < s.length) (hij : s.length - 1 - j = i) (h : finI N s o i = false) : usT N s o (j + 1) = usT N s o j := by
  unfold usT
  rw [show s.length - (j + 1) = i by omega, List.range'_succ, show i + 1 = s.length - j by omega, List.filter_cons_of_neg (by rw [h]; decide)]
theorem us_gt {N : Nat} {s : List (Int × Int)} {o : List Int} {j i : Nat} (hj : j < s.length) (hij : s.length - 1 - j = i) : ∀ x ∈ usT N s o j, (i : Int) < x := by
  intro x hx
  unfold usT at hx
  simp only [List.mem_map, List.mem_filter, List.mem_range'_1] at hx
  obtain ⟨y, ⟨hy, _⟩, rfl⟩ := hx
  omega
theorem us_len (N : Nat) (s : List (Int × Int)) (o : List Int) (j : Nat) : (usT N s o j).length ≤ j := by
  unfold usT
  rw [List.length_map]
  exact Nat.le_trans (List.length_filter_le _ _) (by simp)
theorem own_cap {w : World} {B e sz n c : Nat} {A : Option Addr} {xs : List Value} (h : w.ownsRow B e sz (.slice A n c) n xs) : n ≤ c := by
  obtain ⟨A0, c0, e0, h0⟩ := own_form h
  injection e0 with _ _ e1
  omega
theorem rd_two {w : World} {g : Nat} {a b : Int} (h0 : w.cell? ⟨g, 0, none⟩ = some (I a)) (h1 : w.cell? ⟨g, 1, none⟩ = some (I b)) : Rd w (g + 1) 1 (some ⟨g, 0, none⟩) 2 ([a, b].map I) :=
  ⟨rfl, fun _ => ⟨g, 0, rfl, by omega, fun j hj => by
    have hj2 : j = 0 ∨ j = 1 := by omega
    rcases hj2 with rfl | rfl
    · exact h0
    · exact h1⟩⟩

end Go.Proofs.Ytbbjgcagkmlngab
/- Used steps: the program's. -/
namespace Go.Proofs.Ytbbjgcagkmlngab
open Go.RowKit

theorem info_bool : (Try.prog.info? 4).map (fun i => (i.zero, i.size, i.bytes)) = some (some (.bool false), 1, 1) := by kernel_rfl
def bools (l : List Int) (R : Nat) : List Value := (List.range R).map fun v : Nat => Value.bool (hasI l (v : Int))
theorem bools_length (l : List Int) (R : Nat) : (bools l R).length = R := by simp [bools]
theorem bools_nil (R : Nat) : bools [] R = List.replicate R (.bool false) := by
  apply List.ext_getElem?
  intro j
  by_cases hj : j < R <;> simp [bools, hj, hasI]
theorem bools_set (l : List Int) {R a : Nat} (ha : a < R) : (bools l R).set a (.bool true) = bools (l ++ [(a : Int)]) R := by
  apply List.ext_getElem?
  intro j
  by_cases hj : j < R
  · by_cases hja : a = j
    · subst hja
      rw [List.getElem?_set_self (by rw [bools_length]; exact ha)]
      simp [bools, ha, hasI]
    · rw [List.getElem?_set_ne hja]
      have : ¬ (j : Int) = (a : Int) := by omega
      simp [bools, hj, hasI, this]
  · rw [List.getElem?_eq_none (by simp [bools]; omega), List.getElem?_eq_none (by simp [bools]; omega)]
theorem bools_at (l : List Int) {R a : Nat} (ha : a < R) : (bools l R)[a]? = some (.bool (hasI l (a : Int))) := by simp [bools, ha]
theorem box4 {w w1 : World} {a b c d : Value} {t : TypeId} (h : w.alloc (.cells #[a, b, c, d] t) = w1) :
    w1.cell? ⟨w.heap.size, 0, none⟩ = some a ∧ w1.cell? ⟨w.heap.size, 1, none⟩ = some b ∧ w1.cell? ⟨w.heap.size, 2, none⟩ = some c ∧ w1.cell? ⟨w.heap.size, 3, none⟩ = some d ∧ w1.heap.size = w.heap.size + 1 ∧ Below w.heap.size w w1 := by
  subst h
  refine ⟨?_, ?_, ?_, ?_, by simp, (Below.refl _ _).alloc (Nat.le_refl _) _⟩ <;> (rw [World.cell?_alloc_at _ _ _ _ rfl]; rfl)
theorem bools_own {w : World} {B : Nat} (n : Nat) (hn : n ≤ 1000) (hB : B ≤ w.heap.size) :
    (w.alloc (.cells (madeCells #[Value.bool false] n) 4)).ownsRow B 4 1 (.slice (some ⟨w.heap.size, 0, none⟩) n n) n (bools [] n) := by
  have h := World.ownsRow_lit (base := B) (e := 4) (size := 1) w (madeCells #[Value.bool false] n) n hB (by unfold maxLen; omega) (by simp [size_madeCells])
  rw [toList_madeCells_one] at h
  rw [bools_nil]
  exact h

/-- A store of true. -/
theorem own_set1 {w : World} {B g R a : Nat} {l : List Int} (h : w.ownsRow B 4 1 (.slice (some ⟨g, 0, none⟩) R R) R (bools l R)) (ha : a < R) :
    w.frozen? ⟨g, a, none⟩ = false ∧ (∃ u, w.cell? ⟨g, a, none⟩ = some (.bool u)) ∧ (w.setCell ⟨g, a, none⟩ (.bool true)).ownsRow B 4 1 (.slice (some ⟨g, 0, none⟩) R R) R (bools (l ++ [(a : Int)]) R) := by
  refine ⟨h.frozenAt _, ⟨_, by rw [h.cellAt _ (by omega)]; exact bools_at _ ha⟩, ?_⟩
  have h1 := (h.stored a (.bool true)).1
  rw [bools_set _ ha] at h1
  exact h1

def usP (N : Nat) (s : List (Int × Int)) (o : List Int) (k : Nat) : List Int := ((List.range k).filter (finI N s o)).map fun i : Nat => (i : Int)
theorem usP_all (N : Nat) (s : List (Int × Int)) (o : List Int) : usP N s o s.length = usd N s o := by
  unfold usP usd usT
  rw [Nat.sub_self, List.range_eq_range']
theorem usP_len (N : Nat) (s : List (Int × Int)) (o : List Int) (k : Nat) : (usP N s o k).length ≤ k := by
  unfold usP
  rw [List.length_map]
  exact Nat.le_trans (List.length_filter_le _ _) (by simp)
theorem usP_hit {N : Nat} {s : List (Int × Int)} {o : List Int} {k : Nat} (h : finI N s o k = true) : usP N s o (k + 1) = usP N s o k ++ [(k : Int)] := by
  unfold usP
  rw [List.range_succ, List.filter_append, List.map_append]
  simp [h]
theorem usP_miss {N : Nat} {s : List (Int × Int)} {o : List Int} {k : Nat} (h : finI N s o k = false) : usP N s o (k + 1) = usP N s o k := by
  unfold usP
  rw [List.range_succ, List.filter_append, List.map_append]
  simp [h]

end Go.Proofs.Ytbbjgcagkmlngab
/- The uses of one value, and of all values, by the program. -/
namespace Go.Proofs.Ytbbjgcagkmlngab
open Go.RowKit

set_option maxRecDepth 100000 in
set_option maxHeartbeats 1000000 in
theorem sidesOf_any (a b v : Int) (w : World) :
    Calls Try.prog 178 #[.agg #[.int .i64 a, .int .i64 b], .int .i64 v] w fun e w' => e = .returned (.int .i64 (sid (a, b) v : Nat)) ∧ Below w.heap.size w w' := by
  have e0 : sid (a, b) v = (if a = v then 1 else 0) + (if b = v then 1 else 0) := rfl
  by_cases ha : a = v
  · by_cases hb : b = v
    · have q1 : (a == v) = true := by simpa using ha
      have q2 : (b == v) = true := by simpa using hb
      rw [if_pos ha, if_pos hb] at e0
      have E := Lib.hid e0
      clear e0 ha hb
      go_enter Try.func178, Try.ntmps178
      go_wp2
      go_ret
      exact ⟨by rw [E.out]; rfl, (Below.refl _ _).alloc (Nat.le_refl _) _⟩
    · have q1 : (a == v) = true := by simpa using ha
      have q2 : (b == v) = false := by simpa using hb
      rw [if_pos ha, if_neg hb] at e0
      have E := Lib.hid e0
      clear e0 ha hb
      go_enter Try.func178, Try.ntmps178
      go_wp2
      go_ret
      exact ⟨by rw [E.out]; rfl, (Below.refl _ _).alloc (Nat.le_refl _) _⟩
  · by_cases hb : b = v
    · have q1 : (a == v) = false := by simpa using ha
      have q2 : (b == v) = true := by simpa using hb
      rw [if_neg ha, if_pos hb] at e0
      have E := Lib.hid e0
      clear e0 ha hb
      go_enter Try.func178, Try.ntmps178
      go_wp2
      go_ret
      exact ⟨by rw [E.out]; rfl, (Below.refl _ _).alloc (Nat.le_refl _) _⟩
    · have q1 : (a == v) = false := by simpa using ha
      have q2 : (b == v) = false := by simpa using hb
      rw [if_neg ha, if_neg hb] at e0
      have E := Lib.hid e0
      clear e0 ha hb
      go_enter Try.func178, Try.ntmps178
      go_wp2
      go_ret
      exact ⟨by rw [E.out]; rfl, (Below.refl _ _).alloc (Nat.le_refl _) _⟩

theorem us_set0 {w : World} {g : Nat} {a b : Value} {t : TypeId} (h : w.heap[g]? = some (.cells #[a, b] t (0, 0))) (u : Value) : (w.setCell ⟨g, 0, none⟩ u).heap[g]? = some (.cells #[u, b] t (0, 0)) := by
  rw [heap_setCell_same w g 0 _ t u h]
  rfl
theorem us_set1 {w : World} {g : Nat} {a b : Value} {t : TypeId} (h : w.heap[g]? = some (.cells #[a, b] t (0, 0))) (u : Value) : (w.setCell ⟨g, 1, none⟩ u).heap[g]? = some (.cells #[a, u] t (0, 0)) := by
  rw [heap_setCell_same w g 1 _ t u h]
  rfl

theorem apart_lt {w : World} {v v' : Value} {m sz n : Nat} {e : TypeId} {xs : List Value} (h : ∀ k, v.ownBlock = some k → k < m) (h' : w.ownsRow m e sz v' n xs) : v.ownBlock = none ∨ v.ownBlock ≠ v'.ownBlock := by
  cases hv : v.ownBlock with
  | none => exact .inl rfl
  | some k =>
    right
    intro e
    have h1 := h k hv
    have h2 := (own_block h' k e.symm).1
    omega
theorem us_boxes {w w1 : World} {a b c d : Value} (h : ((w.alloc (.cells #[a, b, c, d] 106)).alloc (.cells #[.slice none 0 0, .slice none 0 0] 194)).alloc (.cells #[.slice none 0 0, .slice none 0 0] 194) = w1) :
    w1.cell? ⟨w.heap.size, 1, none⟩ = some b ∧ w1.cell? ⟨w.heap.size, 2, none⟩ = some c ∧ w1.heap[w.heap.size + 1]? = some (.cells #[.slice none 0 0, .slice none 0 0] 194 (0, 0)) ∧
      w1.heap[w.heap.size + 1 + 1]? = some (.cells #[.slice none 0 0, .slice none 0 0] 194 (0, 0)) ∧ w1.heap.size = w.heap.size + 3 ∧ Below w.heap.size w w1 := by
  generalize ha : w.alloc (.cells #[a, b, c, d] 106) = wa at h
  generalize hb : wa.alloc (.cells #[.slice none 0 0, .slice none 0 0] 194) = wb at h
  obtain ⟨x0, x1, x2, x3, xs, xb⟩ := box4 ha
  obtain ⟨_, _, ys, yb⟩ := box2 hb
  obtain ⟨_, _, zs, zb⟩ := box2 h
  have h2 := heap_alloc_new wa (.cells #[.slice none 0 0, .slice none 0 0] 194)
  have h3 := heap_alloc_new wb (.cells #[.slice none 0 0, .slice none 0 0] 194)
  rw [hb, xs] at h2
  rw [h, ys, xs] at h3
  have yz : Below (w.heap.size + 1) wa w1 := (yb.mono (by omega)).trans (zb.mono (by omega))
  refine ⟨(yz.cell (p := ⟨w.heap.size, 1, none⟩) (by simp)).trans x1, (yz.cell (p := ⟨w.heap.size, 2, none⟩) (by simp)).trans x2, (zb.block (w.heap.size + 1) (by omega)).trans h2, h3, by omega, xb.trans (yz.mono (by omega))⟩

set_option maxRecDepth 100000 in
set_option maxHeartbeats 4000000 in
theorem usesOf_any (B N R : Nat) (A1 A2 A : Option Addr) (c1 c2 c : Nat) (p : Pl) (v : Int) (w : World) (hs40 : p.s.length ≤ 40) (ho6 : p.o.length ≤ 6) (hB : B ≤ w.heap.size) (hr : RdP w B A1 A2 p) :
    Calls Try.prog 174 #[.agg #[.int .i64 N, .slice A1 p.s.length c1, .slice A2 p.o.length c2, .slice A R c], .int .i64 v] w fun e w' =>
      ∃ O co S cs, e = .returned (.agg #[.slice O (usO p.o v p.o.length).length co, .slice S (usS p.s v p.s.length).length cs]) ∧
        OwI w' w.heap.size (.slice O (usO p.o v p.o.length).length co) (usO p.o v p.o.length) ∧ OwI w' w.heap.size (.slice S (usS p.s v p.s.length).length cs) (usS p.s v p.s.length) ∧ Below w.heap.size w w' := by
  have H := Lib.hid hr
  clear hr
  go_enter Try.func174, Try.ntmps174
  go_wp2
  generalize hw1 : World.alloc (World.alloc (World.alloc w _) _) _ = w1
  obtain ⟨x1, x2, RES1, BLK1, xs, xb⟩ := us_boxes hw1
  clear hw1
  obtain ⟨g, hg⟩ : ∃ g, w.heap.size + 1 + 1 = g := ⟨_, rfl⟩
  rw [hg] at BLK1 ⊢
  obtain ⟨q, hq⟩ : ∃ q, w.heap.size + 1 = q := ⟨_, rfl⟩
  rw [hq] at RES1 ⊢
  have hgw : w.heap.size ≤ g := by omega
  have hqw : w.heap.size ≤ q := by omega
  have hqg : q < g := by omega
  have hw1s : w1.heap.size = g + 1 := by omega
  clear hg hq xs
  go_loopw [14] (fun iv wr => ∃ (k : Nat) (A4 : Option Addr) (c4 : Nat), k ≤ p.o.length ∧ iv = .int .i64 k ∧ wr.heap[g]? = some (.cells #[.slice A4 (usO p.o v k).length c4, .slice none 0 0] 194 (0, 0)) ∧
    OwI wr (g + 1) (.slice A4 (usO p.o v k).length c4) (usO p.o v k) ∧ Below g w1 wr) (fun i _ => p.o.length - (intOf i).toNat)
  case atStart => exact ⟨0, none, 0, by omega, rfl, by simpa [usO] using BLK1, by simpa [usO] using OwI.nil w1 (g + 1), Below.refl _ _⟩
  case round =>
    obtain ⟨k, A4, c4, hk, rfl, hblk, hown, hbel⟩ := hrel
    have hsz : g + 1 ≤ wr.heap.size := by have := hbel.size; omega
    have hul := usO_le p.o v k
    by_cases hlt : k < p.o.length
    · obtain ⟨ob, oo, rfl, hob, hoc⟩ := ((H.out.2.below' xb hB).below' hbel (by omega)).int hlt
      have iqk : (k : Int) < (p.o.length : Int) := by omega
      have hst : p.o.getD k 0 = p.o[k] := by simp [hlt]
      obtain ⟨d0, d1, g0, g1⟩ := us_cells hblk
      have BLK := Lib.hid hblk
      have OWN := Lib.hid hown
      have BEL := Lib.hid hbel
      have XB := Lib.hid xb
      clear hblk hown hbel xb BLK1 RES1
      by_cases he : p.o[k] = v
      · have q : (p.o[k] == v) = true := by simpa using he
        have HIT := Lib.hid (usO_hit (hst.trans he))
        clear hst he
        go_wp2_with (at_builtin; refine list_step (fun K hK => ?_); refine step_app_int rfl (.tmp 23) (.tmp 25) rfl (g + 1) (usO p.o v k).length _ (usO p.o v k) rfl (OWN.out.alloc _) rfl wr.heap.size 1 (k : Int) rfl (by simp) (by omega) (by simp; omega) ?_; intro A5 c5 w5 hown5 hg5 hbel5; have hb5 := us_kept BLK.out OWN.out hg5; obtain ⟨e0, e1, h0, h1⟩ := us_cells hb5; go_simp; refine hK _ _ ?_; clear hK K)
        go_roundw
        case rel =>
          have hl : (usO p.o v (k + 1)).length = (usO p.o v k).length + 1 := by rw [HIT.out]; simp
          refine ⟨k + 1, A5, c5, by omega, by go_num, by rw [hl]; exact us_set0 hb5 _, by rw [hl, HIT.out]; exact own_set (h := hown5) hb5 (by decide) _, ?_⟩
          exact (((BEL.out.alloc (by omega) _)).trans (hbel5.mono (by omega))).setCell (Nat.le_refl _) _
        case measure => simp [intOf]; omega
      · have q : (p.o[k] == v) = false := by simpa using he
        have MISS := Lib.hid (usO_miss (v := v) (o := p.o) (k := k) (by rw [hst]; exact he))
        clear hst he
        go_wp2
        go_roundw
        case rel => exact ⟨k + 1, A4, c4, by omega, by go_num, by rw [MISS.out]; exact BLK.out, by rw [MISS.out]; exact OWN.out, BEL.out⟩
        case measure => simp [intOf]; omega
    · have hk' : k = p.o.length := by omega
      subst hk'
      have z1 := (hbel.cell (p := ⟨w.heap.size, 1, none⟩) (by simp; omega)).trans x1
      have RESr := Lib.hid ((hbel.block q (by omega)).trans RES1)
      have HB2 := Lib.hid (xb.trans (hbel.mono hgw))
      have hOB := fun k hk => (own_block hown k hk).2
      have OWN := Lib.hid hown
      have BLK := Lib.hid hblk
      have OBL := Lib.hid hOB
      obtain ⟨lo, hlo⟩ : ∃ l, usO p.o v p.o.length = l := ⟨_, rfl⟩
      rw [hlo] at OWN BLK OBL
      have HLO := Lib.hid hlo
      clear hown hblk hbel hOB hlo xb x1 x2 RES1 BLK1
      obtain ⟨m, hm⟩ : ∃ m, wr.heap.size = m := ⟨_, rfl⟩
      rw [hm] at OBL hsz
      have HMm := Lib.hid hm
      clear hm
      go_wp2
      go_loopw [33] (fun iv wq => ∃ (k : Nat) (A5 : Option Addr) (c5 : Nat), k ≤ p.s.length ∧ iv = .int .i64 k ∧ wq.heap[g]? = some (.cells #[.slice A4 lo.length c4, .slice A5 (usS p.s v k).length c5] 194 (0, 0)) ∧
        OwI wq (g + 1) (.slice A4 lo.length c4) lo ∧ OwI wq m (.slice A5 (usS p.s v k).length c5) (usS p.s v k) ∧ Below g wr wq) (fun i _ => p.s.length - (intOf i).toNat)
      case atStart => exact ⟨0, none, 0, by omega, rfl, by simpa [usS] using BLK.out, OWN.out, by simpa [usS] using OwI.nil wr m, Below.refl _ _⟩
      case round =>
        obtain ⟨k, A5, c5, hk, rfl, hblk, hownO, hownS, hbel⟩ := hrel
        have hsr := hbel.size
        have hsq : g + 1 ≤ wr.heap.size := by have := HMm.out; omega
        have hmq : m ≤ wr.heap.size := by have := HMm.out; omega
        by_cases hlt : k < p.s.length
        · obtain ⟨sb, off, rfl, hsb, hc1, hc2⟩ := ((H.out.1.below' HB2.out hB).below' hbel (by omega)).stp hlt
          have iqk : (k : Int) < (p.s.length : Int) := by omega
          have hst : p.s.getD k (0, 0) = p.s[k] := by simp [hlt]
          have SUC := Lib.hid (show usS p.s v (k + 1) = usS p.s v k ++ List.replicate (sid p.s[k] v) (k : Int) by rw [← hst]; rfl)
          obtain ⟨a, ha⟩ : ∃ a, (p.s[k]).1 = a := ⟨_, rfl⟩
          obtain ⟨b, hb⟩ : ∃ b, (p.s[k]).2 = b := ⟨_, rfl⟩
          have hab : p.s[k] = (a, b) := by rw [← ha, ← hb]
          rw [hab] at SUC
          rw [ha] at hc1
          rw [hb] at hc2
          have hsd := sid_le (a, b) v
          have hsl := usS_le p.s v k
          have SD := fun W => sidesOf_any a b v W
          obtain ⟨n, hn⟩ : ∃ n, sid (a, b) v = n := ⟨_, rfl⟩
          rw [hn] at SUC hsd SD
          have SD := Lib.hid SD
          obtain ⟨l, hl⟩ : ∃ l, usS p.s v k = l := ⟨_, rfl⟩
          rw [hl] at SUC hsl hblk hownS
          have BLK2 := Lib.hid hblk
          have OWO := Lib.hid hownO
          have OWS := Lib.hid hownS
          have BEL := Lib.hid hbel
          clear hblk hownO hownS hbel hst ha hb hab hn hl
          go_wp2_with fail
          go_at_call 178
          generalize hw3 : World.alloc wr _ = w3
          obtain ⟨_, _, es, eb⟩ := box2 hw3
          clear hw3
          refine (SD.out w3).mono ?_
          rintro e w4 ⟨rfl, hb4⟩
          have hb14 : Below wr.heap.size wr w4 := eb.trans (hb4.mono (by omega))
          have BLK4 := Lib.hid ((hb14.block g (by omega)).trans BLK2.out)
          have OWO4 := Lib.hid (OWO.out.below hb14)
          have OWS4 := Lib.hid (OWS.out.below hb14)
          have BEL4 := Lib.hid (BEL.out.trans (hb14.mono (by omega)))
          have hs4 : wr.heap.size ≤ w4.heap.size := hb14.size
          clear eb es hb4 hb14
          go_wp2
          go_loopw [41] (fun iv wt => ∃ (t : Nat) (A6 : Option Addr) (c6 : Nat), t ≤ n ∧ iv = .int .i64 t ∧ wt.heap[g]? = some (.cells #[.slice A4 lo.length c4, .slice A6 (l.length + t) c6] 194 (0, 0)) ∧
            OwI wt (g + 1) (.slice A4 lo.length c4) lo ∧ wt.ownsRow m 3 1 (.slice A6 (l.length + t) c6) (l.length + t) ((l ++ List.replicate t (k : Int)).map I) ∧ Below g w4 wt) (fun i _ => n - (intOf i).toNat)
          case atStart => exact ⟨0, A5, c5, by omega, rfl, BLK4.out, OWO4.out, by simpa [OwI] using OWS4.out, Below.refl _ _⟩
          case round =>
            obtain ⟨t, A6, c6, ht, rfl, hblk, hownO, hownS, hbel⟩ := hrel
            have hst4 : w4.heap.size ≤ wr.heap.size := hbel.size
            obtain ⟨d0, d1, g0, g1⟩ := us_cells hblk
            have BLK5 := Lib.hid hblk
            have OWO5 := Lib.hid hownO
            have OWS5 := Lib.hid hownS
            have BEL5 := Lib.hid hbel
            clear hblk hownO hownS hbel
            by_cases htl : t < n
            · have iqt : (t : Int) < (n : Int) := by omega
              have hll : (l ++ List.replicate t (k : Int)).length = l.length + t := by simp
              have HLL := Lib.hid hll
              clear hll
              go_wp2_with (at_builtin; refine list_step (fun K hK => ?_); refine step_app1 Try.underlying22 info_int rfl (by omega) rfl (.tmp 44) (.tmp 46) rfl m (l.length + t) _ _ rfl (World.ownsRow.alloc OWS5.out _) wr.heap.size 1 (I (k : Int)) rfl (by simp) rfl (by omega) (by simp; omega) ?_; intro A7 c7 w5 hown5 hg5 hbel5; have hb5 := us_kept BLK5.out OWS5.out hg5; have hO5 := World.ownsRow.kept (World.ownsRow.alloc OWO5.out _) hg5 (apart_lt OBL.out OWS5.out); obtain ⟨e0, e1, h0, h1⟩ := us_cells hb5; go_simp; refine hK _ _ ?_; clear hK K)
              go_roundw
              case rel =>
                refine ⟨t + 1, A7, c7, by omega, by go_num, us_set1 hb5 _, own_set (h := hO5) hb5 (by decide) _, ?_, ?_⟩
                · have h := own_set (g := g) (o := 1) hown5 hb5 (by decide) (.slice A7 (l.length + t + 1) c7)
                  have e : (l ++ List.replicate t (k : Int)).map I ++ [I (k : Int)] = (l ++ List.replicate (t + 1) (k : Int)).map I := by
                    simp [List.replicate_succ']
                  rw [e] at h
                  exact h
                · exact (((BEL5.out.alloc (by omega) _)).trans (hbel5.mono (by omega))).setCell (Nat.le_refl _) _
              case measure => simp [intOf]; omega
            · have ht' : t = n := by omega
              subst ht'
              go_wp2
              go_roundw
              case rel =>
                have hll : (usS p.s v (k + 1)).length = l.length + t := by rw [SUC.out]; simp
                refine ⟨k + 1, A6, c6, by omega, by go_num, by rw [hll]; exact BLK5.out, OWO5.out, ?_, BEL4.out.trans BEL5.out⟩
                show World.ownsRow _ _ _ _ _ _ _
                rw [hll, SUC.out]
                exact OWS5.out
              case measure => simp [intOf]; omega
        · have hk' : k = p.s.length := by omega
          subst hk'
          obtain ⟨d0, d1, _, _⟩ := us_cells hblk
          have RESq := (hbel.block q hqg).trans RESr.out
          obtain ⟨_, _, f0, f1⟩ := us_cells RESq
          have BLK2 := Lib.hid hblk
          have OWO := Lib.hid hownO
          have OWS := Lib.hid hownS
          have HB3 := Lib.hid (HB2.out.trans (hbel.mono hgw))
          have RESQ := Lib.hid RESq
          obtain ⟨r0, r1, _, _⟩ := us_cells RESq
          clear hblk hownO hownS hbel RESq
          go_wp2
          have hq1 := us_set0 RESQ.out (.slice A4 lo.length c4)
          refine bodyPost_ret (v := .agg #[.slice A4 lo.length c4, .slice A5 (usS p.s v p.s.length).length c5]) (by simp [results, Try.results174, go_sem, r0, r1]) rfl ⟨A4, c4, A5, c5, by rw [HLO.out], ?_, ?_, ?_⟩
          · rw [HLO.out]
            exact own_base (own_set (own_set (h := OWO.out) RESQ.out (by decide) _) hq1 (by decide) _) (by omega)
          · exact own_base (own_set (own_set (h := OWS.out) RESQ.out (by decide) _) hq1 (by decide) _) (by omega)
          · exact (HB3.out.setCell hqw _).setCell hqw _
end Go.Proofs.Ytbbjgcagkmlngab
/- A new row with room: the library's slices.Grow at the nil slice. -/
namespace Go.Proofs.Ytbbjgcagkmlngab
open Go.RowKit

end Go.Proofs.Ytbbjgcagkmlngab
/- Two rows of steps behind each other: the library's slices.Concat. -/
namespace Go.Proofs.Ytbbjgcagkmlngab
open Go.RowKit

def catN (a b k : Nat) : Nat := match k with | 0 => 0 | 1 => a | _ => a + b
def catL (a b : List (Int × Int)) (k : Nat) : List (Int × Int) := match k with | 0 => [] | 1 => a | _ => a ++ b
theorem fl_append (a b : List (Int × Int)) : fl (a ++ b) = fl a ++ fl b := by simp [fl]

end Go.Proofs.Ytbbjgcagkmlngab
/- The uses of all values, by the program. -/
namespace Go.Proofs.Ytbbjgcagkmlngab
open Go.RowKit

theorem fill2 (l : List Value) (z a b : Value) {n k : Nat} (hl : l.length = k * 2) (hk : k < n) :
    ((l ++ List.replicate ((n - k) * 2) z).set (k * 2) a).set (k * 2 + 1) b = l ++ [a, b] ++ List.replicate ((n - (k + 1)) * 2) z := by
  rw [show (n - k) * 2 = (n - (k + 1)) * 2 + 1 + 1 by omega, List.replicate_succ, List.replicate_succ, List.set_append_right _ _ (by omega), List.set_append_right _ _ (by omega), hl, Nat.sub_self, show k * 2 + 1 - k * 2 = 1 by omega]
  simp
theorem info_uses : (Try.prog.info? 194).map (fun i => (i.zero, i.size, i.bytes)) = some (some (.agg #[.slice none 0 0, .slice none 0 0]), 2, 48) := by kernel_rfl

def uuV (fo fs : Nat → Option Addr × Nat) (s : List (Int × Int)) (o : List Int) (i : Nat) : List Value :=
  [.slice (fo i).1 (usO o (i : Int) o.length).length (fo i).2, .slice (fs i).1 (usS s (i : Int) s.length).length (fs i).2]
def UU (fo fs : Nat → Option Addr × Nat) (s : List (Int × Int)) (o : List Int) (k : Nat) : List Value := (List.range k).flatMap (uuV fo fs s o)
def updU (f : Nat → Option Addr × Nat) (k : Nat) (a : Option Addr × Nat) : Nat → Option Addr × Nat := fun i => if i = k then a else f i
theorem UU_succ (fo fs : Nat → Option Addr × Nat) (s : List (Int × Int)) (o : List Int) (k : Nat) : UU fo fs s o (k + 1) = UU fo fs s o k ++ uuV fo fs s o k := by
  unfold UU
  rw [List.range_succ, List.flatMap_append]
  simp
theorem UU_len (fo fs : Nat → Option Addr × Nat) (s : List (Int × Int)) (o : List Int) (k : Nat) : (UU fo fs s o k).length = k * 2 := by
  induction k with
  | zero => rfl
  | succ k ih => rw [UU_succ, List.length_append, ih]; simp [uuV]; omega
theorem UU_at (fo fs : Nat → Option Addr × Nat) (s : List (Int × Int)) (o : List Int) {i k : Nat} (h : i < k) :
    (UU fo fs s o k)[i * 2]? = some (.slice (fo i).1 (usO o (i : Int) o.length).length (fo i).2) ∧ (UU fo fs s o k)[i * 2 + 1]? = some (.slice (fs i).1 (usS s (i : Int) s.length).length (fs i).2) := by
  induction k with
  | zero => omega
  | succ k ih =>
    rw [UU_succ]
    rcases Nat.lt_or_ge i k with h1 | h1
    · obtain ⟨e1, e2⟩ := ih h1
      have hl := UU_len fo fs s o k
      exact ⟨by rw [List.getElem?_append_left (by omega), e1], by rw [List.getElem?_append_left (by omega), e2]⟩
    · have e : i = k := by omega
      subst e
      have hl := UU_len fo fs s o i
      exact ⟨by rw [List.getElem?_append_right (by omega), hl, Nat.sub_self]; rfl, by rw [List.getElem?_append_right (by omega), hl, show i * 2 + 1 - i * 2 = 1 by omega]; rfl⟩
theorem UU_upd (fo fs : Nat → Option Addr × Nat) (s : List (Int × Int)) (o : List Int) (k : Nat) (a b : Option Addr × Nat) :
    UU (updU fo k a) (updU fs k b) s o (k + 1) = UU fo fs s o k ++ [.slice a.1 (usO o (k : Int) o.length).length a.2, .slice b.1 (usS s (k : Int) s.length).length b.2] := by
  have key : ∀ j, j ≤ k → UU (updU fo k a) (updU fs k b) s o j = UU fo fs s o j := by
    intro j
    induction j with
    | zero => intro _; rfl
    | succ j ih =>
      intro hj
      rw [UU_succ, UU_succ, ih (by omega)]
      have : ¬ j = k := by omega
      simp [uuV, updU, this]
  rw [UU_succ, key k (Nat.le_refl _)]
  simp [uuV, updU]
/-- Rows of outputs and of steps, of the first k values. -/
def OwX (w : World) (B : Nat) (fo fs : Nat → Option Addr × Nat) (s : List (Int × Int)) (o : List Int) (k : Nat) : Prop :=
  ∀ i : Nat, i < k → OwI w B (.slice (fo i).1 (usO o (i : Int) o.length).length (fo i).2) (usO o (i : Int) o.length) ∧ OwI w B (.slice (fs i).1 (usS s (i : Int) s.length).length (fs i).2) (usS s (i : Int) s.length)
/-- A list of the uses of R values, all of it own. -/
def OwU (w : World) (B : Nat) (A : Option Addr) (c : Nat) (fo fs : Nat → Option Addr × Nat) (s : List (Int × Int)) (o : List Int) (R : Nat) : Prop :=
  w.ownsRow B 194 2 (.slice A R c) R (UU fo fs s o R) ∧ OwX w B fo fs s o R
section
variable {w w' : World} {B B' c k R : Nat} {A : Option Addr} {fo fs : Nat → Option Addr × Nat} {s : List (Int × Int)} {o : List Int}
theorem OwX.below (h : OwX w B fo fs s o k) (hb : Below w.heap.size w w') : OwX w' B fo fs s o k := fun i hi => ⟨(h i hi).1.below hb, (h i hi).2.below hb⟩
theorem OwX.base (h : OwX w B fo fs s o k) (hB : B' ≤ B) : OwX w B' fo fs s o k := fun i hi => ⟨(h i hi).1.base hB, (h i hi).2.base hB⟩
theorem OwX.set {g j : Nat} {cs : Array Value} {t : TypeId} (h : OwX w B fo fs s o k) (hg : w.heap[g]? = some (.cells cs t (0, 0))) (ht : t ≠ 3) (u : Value) : OwX (w.setCell ⟨g, j, none⟩ u) B fo fs s o k :=
  fun i hi => ⟨own_set (h := (h i hi).1) hg ht u, own_set (h := (h i hi).2) hg ht u⟩
theorem OwX.upd {a b : Option Addr × Nat} (h : OwX w B fo fs s o k) (ha : OwI w B (.slice a.1 (usO o (k : Int) o.length).length a.2) (usO o (k : Int) o.length)) (hb : OwI w B (.slice b.1 (usS s (k : Int) s.length).length b.2) (usS s (k : Int) s.length)) :
    OwX w B (updU fo k a) (updU fs k b) s o (k + 1) := by
  intro i hi
  by_cases e : i = k
  · subst e
    simp only [updU, if_true]
    exact ⟨ha, hb⟩
  · have := h i (by omega)
    simp only [updU, if_neg e]
    exact this
theorem OwU.below (h : OwU w B A c fo fs s o R) (hb : Below w.heap.size w w') : OwU w' B A c fo fs s o R := ⟨own_below h.1 hb, h.2.below hb⟩
theorem OwU.base (h : OwU w B A c fo fs s o R) (hB : B' ≤ B) : OwU w B' A c fo fs s o R := ⟨own_base h.1 hB, h.2.base hB⟩
/-- The two cells of value i, and its rows. -/
theorem OwU.at_ (h : OwU w B A c fo fs s o R) {i : Nat} (hi : i < R) : ∃ g, A = some ⟨g, 0, none⟩ ∧ B ≤ g ∧ g < w.heap.size ∧
    w.cell? ⟨g, i * 2, none⟩ = some (.slice (fo i).1 (usO o (i : Int) o.length).length (fo i).2) ∧ w.cell? ⟨g, i * 2 + 1, none⟩ = some (.slice (fs i).1 (usS s (i : Int) s.length).length (fs i).2) := by
  obtain ⟨g, rfl, hB, hg, hc, _⟩ := own_at h.1 (by omega)
  obtain ⟨e1, e2⟩ := UU_at fo fs s o hi
  exact ⟨g, rfl, hB, hg, (hc _ (by omega)).trans e1, (hc _ (by omega)).trans e2⟩
end

set_option maxRecDepth 100000 in
set_option maxHeartbeats 4000000 in
theorem allUses_any (B N R : Nat) (A1 A2 A : Option Addr) (c1 c2 c : Nat) (p : Pl) (w : World) (hs40 : p.s.length ≤ 40) (ho6 : p.o.length ≤ 6) (hR : R ≤ 46) (hB : B ≤ w.heap.size) (hr : RdP w B A1 A2 p) :
    Calls Try.prog 162 #[.agg #[.int .i64 N, .slice A1 p.s.length c1, .slice A2 p.o.length c2, .slice A R c]] w fun e w' =>
      ∃ A' c' fo fs, e = .returned (.slice A' R c') ∧ OwU w' w.heap.size A' c' fo fs p.s p.o R ∧ Below w.heap.size w w' := by
  have H := Lib.hid hr
  clear hr
  obtain ⟨i0, hi, hz0, hz1, hz2⟩ := info_parts info_uses
  have hmk : ∀ W : World, (Instr.makeSlice 191 (.int .i64 (R : Int)) (.int .i64 (R : Int))).run Try.prog W = .ok (.slice (some ⟨W.heap.size, 0, none⟩) R R) (W.alloc (.cells (madeCells #[.slice none 0 0, .slice none 0 0] (R * 2)) 194)) := fun W => by
    have hr := run_make (P := Try.prog) W 191 194 i0 _ Try.underlying191 hi hz0 .i64 .i64 R R (by omega) (Int.le_refl _) (by rw [hz2]; omega) (by omega)
    simp only [Int.toNat_natCast] at hr
    rw [hz1] at hr
    exact hr
  go_enter Try.func162, Try.ntmps162
  go_wp2
  clear hmk hi hz0 hz1 hz2
  generalize hw1 : World.alloc w _ = w1
  obtain ⟨x0, x1, x2, x3, xs, xb⟩ := box4 hw1
  clear hw1
  rw [← xs]
  generalize hw2 : World.alloc w1 _ = w2
  have hmade : w2.ownsRow (w.heap.size + 1) 194 2 (.slice (some ⟨w1.heap.size, 0, none⟩) R R) R (UU (fun _ => (none, 0)) (fun _ => (none, 0)) p.s p.o 0 ++ List.replicate ((R - 0) * 2) (.slice none 0 0)) := by
    have h := World.ownsRow_lit (base := w.heap.size + 1) (e := 194) (size := 2) w1 (madeCells #[Value.slice none 0 0, Value.slice none 0 0] (R * 2)) R (by omega) (by unfold maxLen; omega) (by simp [size_madeCells])
    rw [made2, hw2] at h
    simpa [UU] using h
  have hb2 : Below (w.heap.size + 1) w1 w2 := by rw [← hw2]; exact (Below.refl _ _).alloc (by omega) _
  clear hw2
  have y0 := (hb2.cell (p := ⟨w.heap.size, 0, none⟩) (by simp)).trans x0
  have y1 := (hb2.cell (p := ⟨w.heap.size, 1, none⟩) (by simp)).trans x1
  have y2 := (hb2.cell (p := ⟨w.heap.size, 2, none⟩) (by simp)).trans x2
  have y3 := (hb2.cell (p := ⟨w.heap.size, 3, none⟩) (by simp)).trans x3
  have HB2 := Lib.hid (xb.trans (hb2.mono (show w.heap.size ≤ w.heap.size + 1 by omega)))
  have HM := Lib.hid hmade
  have hg : w.heap.size + 1 ≤ w1.heap.size := by omega
  have hw12 : w.heap.size + 1 < w2.heap.size := by have := ((own_block hmade) _ rfl).2; have e : w1.heap.size < w2.heap.size := this; omega
  clear x0 x1 x2 x3 xs xb hb2 hmade
  go_loopw [12] (fun iv wr => ∃ (k : Nat) (fo fs : Nat → Option Addr × Nat), k ≤ R ∧ iv = .int .i64 k ∧ wr.ownsRow (w.heap.size + 1) 194 2 (.slice (some ⟨w1.heap.size, 0, none⟩) R R) R (UU fo fs p.s p.o k ++ List.replicate ((R - k) * 2) (.slice none 0 0)) ∧
    OwX wr (w.heap.size + 1) fo fs p.s p.o k ∧ Below (w.heap.size + 1) w2 wr) (fun i _ => R - (intOf i).toNat)
  case atStart => exact ⟨0, _, _, by omega, rfl, HM.out, fun i hi => absurd hi (by omega), Below.refl _ _⟩
  case round =>
    obtain ⟨k, fo, fs, hk, rfl, hown, hX, hbel⟩ := hrel
    have hsz : w.heap.size + 1 < wr.heap.size := by have := hbel.size; omega
    have OWN := Lib.hid hown
    have OWX := Lib.hid hX
    by_cases hlt : k < R
    · have iqk : (k : Int) < (R : Int) := by omega
      have hbw := HB2.out.trans (hbel.mono (show w.heap.size ≤ w.heap.size + 1 by omega))
      have FS := Lib.hid (show ∀ x, Below wr.heap.size wr x → x.cell? ⟨w.heap.size, 0, none⟩ = some (.int .i64 N) ∧ x.cell? ⟨w.heap.size, 1, none⟩ = some (.slice A1 p.s.length c1) ∧ x.cell? ⟨w.heap.size, 2, none⟩ = some (.slice A2 p.o.length c2) ∧ x.cell? ⟨w.heap.size, 3, none⟩ = some (.slice A R c) from fun x hx =>
        ⟨((hx.cell (p := ⟨w.heap.size, 0, none⟩) (by simp only []; omega)).trans (hbel.cell (p := ⟨w.heap.size, 0, none⟩) (by simp))).trans y0, ((hx.cell (p := ⟨w.heap.size, 1, none⟩) (by simp only []; omega)).trans (hbel.cell (p := ⟨w.heap.size, 1, none⟩) (by simp))).trans y1,
        ((hx.cell (p := ⟨w.heap.size, 2, none⟩) (by simp only []; omega)).trans (hbel.cell (p := ⟨w.heap.size, 2, none⟩) (by simp))).trans y2, ((hx.cell (p := ⟨w.heap.size, 3, none⟩) (by simp only []; omega)).trans (hbel.cell (p := ⟨w.heap.size, 3, none⟩) (by simp))).trans y3⟩)
      have US := Lib.hid (show ∀ W, Below wr.heap.size wr W → _ from fun W hW => usesOf_any B N R A1 A2 A c1 c2 c p (k : Int) W hs40 ho6 (by have := hW.size; omega) ((H.out.below' hbw hB).below' hW (by omega)))
      have BEL := Lib.hid hbel
      clear hown hX hbel hbw
      obtain ⟨v0, v1, v2, v3⟩ := FS.out wr (Below.refl _ _)
      go_wp2_with fail
      go_at_call 174
      refine (US.out wr (Below.refl _ _)).mono ?_
      rintro e w5 ⟨O, co, S, cs, rfl, hO5, hS5, hb5⟩
      have hown5 := own_below OWN.out hb5
      have hX5 := OWX.out.below hb5
      have hl := UU_len fo fs p.s p.o k
      have d0 : w5.cell? ⟨w1.heap.size, k * 2, none⟩ = some (.slice none 0 0) := by
        rw [hown5.cellAt _ (by omega), List.getElem?_append_right (by omega), List.getElem?_replicate, if_pos (by omega)]
      have d1 : w5.cell? ⟨w1.heap.size, k * 2 + 1, none⟩ = some (.slice none 0 0) := by
        rw [hown5.cellAt _ (by omega), List.getElem?_append_right (by omega), List.getElem?_replicate, if_pos (by omega)]
      have f0 : w5.frozen? ⟨w1.heap.size, k * 2, none⟩ = false := hown5.frozenAt _
      have f1 : w5.frozen? ⟨w1.heap.size, k * 2 + 1, none⟩ = false := hown5.frozenAt _
      have OWN5 := Lib.hid hown5
      have OWX5 := Lib.hid hX5
      have HO5 := Lib.hid hO5
      have HS5 := Lib.hid hS5
      have BEL5 := Lib.hid (BEL.out.trans (hb5.mono (show w.heap.size + 1 ≤ wr.heap.size by omega)))
      clear hown5 hX5 hO5 hS5 hb5 hl v0 v1 v2 v3
      go_wp2
      go_roundw
      case rel =>
        refine ⟨k + 1, updU fo k (O, co), updU fs k (S, cs), by omega, by go_num, ?_, ?_, (BEL5.out.setCell hg _).setCell hg _⟩
        · have h := ((OWN5.out.stored (k * 2) (.slice O (usO p.o (k : Int) p.o.length).length co)).1.stored (k * 2 + 1) (.slice S (usS p.s (k : Int) p.s.length).length cs)).1
          rw [fill2 _ _ _ _ (UU_len fo fs p.s p.o k) hlt] at h
          rw [UU_upd]
          exact h
        · obtain ⟨ws, hws⟩ := own_heap OWN5.out
          have h2 := (OWN5.out.stored (k * 2) (.slice O (usO p.o (k : Int) p.o.length).length co)).1
          obtain ⟨ws2, hws2⟩ := own_heap h2
          refine OwX.upd ((OWX5.out.set hws (by decide) _).set hws2 (by decide) _) ?_ ?_
          · exact own_base (own_set (own_set (h := HO5.out) hws (by decide) _) hws2 (by decide) _) (by omega)
          · exact own_base (own_set (own_set (h := HS5.out) hws (by decide) _) hws2 (by decide) _) (by omega)
      case measure => simp [intOf]; omega
    · have hk' : k = R := by omega
      subst hk'
      have HB3 := Lib.hid (HB2.out.trans (hbel.mono (show w.heap.size ≤ w.heap.size + 1 by omega)))
      clear hown hX hbel
      go_wp2
      go_ret
      refine ⟨_, _, rfl, ⟨fo, fs, ?_, OWX.out.base (by omega)⟩, HB3.out⟩
      have h := own_base OWN.out (show w.heap.size ≤ w.heap.size + 1 by omega)
      simpa using h
end Go.Proofs.Ytbbjgcagkmlngab
/- How often values are used, by the model. -/
namespace Go.Proofs.Ytbbjgcagkmlngab
open Go.RowKit

end Go.Proofs.Ytbbjgcagkmlngab
/- UsesOf, of the model and of the program. -/
namespace Go.Proofs.Ytbbjgcagkmlngab
open Go.RowKit

def usR (p : Pl) : List Int := if good p then usL p else []
theorem usR_good {p : Pl} {N : Nat} (h : good p = true) (hN : p.n = N) : usR p = cL p.s p.o (N + p.s.length) p.s.length p.o.length := by
  have : p.n.toNat = N := by omega
  unfold usR usL
  rw [if_pos h, this]
theorem usR_bad {p : Pl} (h : good p = false) : usR p = [] := by unfold usR; rw [if_neg (by rw [h]; decide)]
theorem usR_le (p : Pl) : (usR p).length ≤ 1000 := by
  cases h : good p with
  | false => rw [usR_bad h]; simp
  | true =>
    obtain ⟨N, hN, _, n6, h40, _⟩ := good_facts h
    rw [usR_good h hN, cL_length]
    omega
/-- Behind withValues: the box of what it answers. -/
theorem box4v {w w1 : World} {a b c d : Value} {t : TypeId} (h : w.alloc (.cells #[a, b, c, d] t) = w1) :
    (w1.cell? ⟨w.heap.size, 0, none⟩ = some a ∧ w1.cell? ⟨w.heap.size, 1, none⟩ = some b ∧ w1.cell? ⟨w.heap.size, 2, none⟩ = some c ∧ w1.cell? ⟨w.heap.size, 3, none⟩ = some d) ∧ w1.heap.size = w.heap.size + 1 ∧ Below w.heap.size w w1 :=
  let ⟨h0, h1, h2, h3, hs, hb⟩ := box4 h
  ⟨⟨h0, h1, h2, h3⟩, hs, hb⟩


/-- The first k counts. -/
def cK (s : List (Int × Int)) (o : List Int) (k : Nat) : List Int := cL s o k s.length o.length
theorem cK_succ (s : List (Int × Int)) (o : List Int) (k : Nat) : cK s o (k + 1) = cK s o k ++ [((usC s o s.length o.length (k : Int) : Nat) : Int)] := by
  unfold cK cL
  rw [List.range_succ, List.map_append]
  rfl
theorem cK_len (s : List (Int × Int)) (o : List Int) (k : Nat) : (cK s o k).length = k := cL_length _ _ _ _ _

end Go.Proofs.Ytbbjgcagkmlngab
