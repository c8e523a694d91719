/- The laws' own helpers: marks. -/
import Derived.Test.YtbohakifjmdoiabDoorAp
import Derived.Test.YtbohakifjmdoiabDoorLb
namespace Go.Proofs.YtbohakifjmdoiabDoor
open Go.RowKit

def marksI (k : Int) (n : Nat) : List Int := (List.range n).map fun i : Nat => k + (i : Int)
def marksS (k : Int) (n : Nat) : List (Int × Int) := (List.range n).map fun i : Nat => (k + 2 * (i : Int), k + 2 * (i : Int) + 1)
theorem marksI_length (k : Int) (n : Nat) : (marksI k n).length = n := by simp [marksI]
theorem marksS_length (k : Int) (n : Nat) : (marksS k n).length = n := by simp [marksS]
theorem marksI_succ (k : Int) (n : Nat) : marksI k (n + 1) = marksI k n ++ [k + (n : Int)] := by
  unfold marksI
  rw [List.range_succ, List.map_append]
  rfl
theorem marksS_succ (k : Int) (n : Nat) : marksS k (n + 1) = marksS k n ++ [(k + 2 * (n : Int), k + 2 * (n : Int) + 1)] := by
  unfold marksS
  rw [List.range_succ, List.map_append]
  rfl
/-- The first k of a list replaced. -/
def over {α : Type} (xs ys : List α) (k : Nat) : List α := xs.take k ++ ys.drop k
theorem over_set_int (l : List Int) (m : Int) (k : Nat) (hk : k < l.length) :
    (((marksI m k) ++ l.drop k).map I).set k (I (m + (k : Int))) = ((marksI m (k + 1)) ++ l.drop (k + 1)).map I := by
  rw [← List.map_set, List.set_append_right _ _ (by rw [marksI_length]; omega), marksI_length, Nat.sub_self, marksI_succ, List.drop_eq_getElem_cons hk, List.set_cons_zero]
  simp
theorem over_set_step (s : List (Int × Int)) (m : Int) (k : Nat) (hk : k < s.length) :
    ((fl ((marksS m k) ++ s.drop k)).set (k * 2) (I (m + 2 * (k : Int)))).set (k * 2 + 1) (I (m + 2 * (k : Int) + 1)) = fl ((marksS m (k + 1)) ++ s.drop (k + 1)) := by
  have e : ∀ a b : List (Int × Int), fl (a ++ b) = fl a ++ fl b := fun a b => by simp [fl]
  have hl : (fl (marksS m k)).length = k * 2 := by rw [fl_length, marksS_length]
  have e2 : fl (s.drop k) = I (s[k]).1 :: I (s[k]).2 :: fl (s.drop (k + 1)) := by rw [List.drop_eq_getElem_cons hk]; rfl
  rw [e, e2, List.set_append_right _ _ (by omega), hl, Nat.sub_self, List.set_cons_zero, List.set_append_right _ _ (by omega), hl, show k * 2 + 1 - k * 2 = 1 by omega, List.set_cons_succ, List.set_cons_zero, marksS_succ, e, e]
  simp [fl]

set_option maxHeartbeats 1000000 in
theorem markIntS_any (B : Nat) (A : Option Addr) (c : Nat) (l : List Int) (m : Int) (w : World) (hm : l.length ≤ 4000000) (hm0 : 0 ≤ m) (hm1 : m ≤ 100000000) (hown : OwI w B (.slice A l.length c) l) :
    Calls Tryd.prog 11 #[.slice A l.length c, .int .i64 m] w fun e w' => e = .returned (.int .i64 (m + (l.length : Int))) ∧ OwI w' B (.slice A l.length c) (marksI m l.length) ∧ w.grownBy w' (Value.slice A l.length c).ownBlock := by
  have HOWN := Lib.hid hown
  clear hown
  go_enter Tryd.func11, Tryd.ntmps11
  go_wp2
  go_loopw [1, 5] (fun kv iv wr => ∃ k : Nat, k ≤ l.length ∧ iv = .int .i64 k ∧ kv = .int .i64 (m + (k : Int)) ∧ OwI wr B (.slice A l.length c) (marksI m k ++ l.drop k) ∧ w.grownBy wr (Value.slice A l.length c).ownBlock) (fun _ i _ => l.length - (intOf i).toNat)
  case atStart => exact ⟨0, by omega, rfl, by simp, HOWN.out, World.grownBy.refl _ _⟩
  case round =>
    obtain ⟨k, hk, rfl, rfl, hown, hbel⟩ := hrel
    have hll : (marksI m k ++ l.drop k).length = l.length := by rw [List.length_append, marksI_length, List.length_drop]; omega
    by_cases hlt : k < l.length
    · have ho : wr.ownsRow B 3 1 (.slice A l.length c) l.length ((marksI m k ++ l.drop k).map I) := by
        have h : wr.ownsRow _ _ _ _ _ _ := hown
        rw [hll] at h
        exact h
      obtain ⟨g, rfl, hgB, hgs, hcs, hfs⟩ := own_at ho (by omega)
      have hc : wr.cell? ⟨g, k, none⟩ = some (.int .i64 ((marksI m k ++ l.drop k)[k]'(by rw [hll]; exact hlt))) := by
        rw [hcs _ (by omega)]
        have hlt' : k < (marksI m k ++ l.drop k).length := by rw [hll]; exact hlt
        simp only [List.getElem?_map, List.getElem?_eq_getElem hlt', Option.map_some, I]
      have hf := hfs k
      have HO := Lib.hid ho
      have HB := Lib.hid hbel
      generalize hval : (Value.int .i64 ((marksI m k ++ l.drop k)[k]'(by rw [hll]; exact hlt))) = cv at hc
      clear ho hown hbel hcs hfs hval
      go_wp2
      go_roundw
      case rel =>
        refine ⟨k + 1, by omega, by go_num, by go_num, ?_, grown_set HB.out _⟩
        have h := (HO.out.stored k (I (m + (k : Int)))).1
        rw [over_set_int l m k hlt] at h
        show World.ownsRow _ _ _ _ _ _ _
        rw [show (marksI m (k + 1) ++ l.drop (k + 1)).length = l.length by rw [List.length_append, marksI_length, List.length_drop]; omega]
        exact h
      case measure => simp [intOf]; omega
    · have hk' : k = l.length := by omega
      subst hk'
      rw [List.drop_length, List.append_nil] at hown
      go_wp2
      go_ret
      exact ⟨rfl, hown, hbel⟩

set_option maxHeartbeats 1000000 in
theorem heldIntS_any (B : Nat) (A : Option Addr) (c n : Nat) (m : Int) (w : World) (hm : n ≤ 4000000) (hm0 : 0 ≤ m) (hm1 : m ≤ 100000000) (hr : Rd w B 1 A n ((marksI m n).map I)) :
    Calls Tryd.prog 12 #[.slice A n c, .int .i64 m] w fun e w' => e = .returned (.int .i64 (m + (n : Int))) ∧ w = w' := by
  have hr2 : Rd w B 1 A (marksI m n).length ((marksI m n).map I) := by rw [marksI_length]; exact hr
  have H := Lib.hid hr2
  clear hr hr2
  go_enter Tryd.func12, Tryd.ntmps12
  go_wp2
  go_loopw [1, 5] (fun kv iv wr => ∃ k : Nat, k ≤ n ∧ iv = .int .i64 k ∧ kv = .int .i64 (m + (k : Int)) ∧ w = wr) (fun _ i _ => n - (intOf i).toNat)
  case atStart => exact ⟨0, by omega, rfl, by simp, rfl⟩
  case round =>
    obtain ⟨k, hk, rfl, rfl, rfl⟩ := hrel
    by_cases hlt : k < n
    · obtain ⟨b, off, rfl, hb, hcell⟩ := H.out.int (show k < (marksI m n).length by rw [marksI_length]; exact hlt)
      have e : (marksI m n)[k]'(by rw [marksI_length]; exact hlt) = m + (k : Int) := by simp [marksI]
      rw [e] at hcell
      have ik : (k : Int) < (n : Int) := by omega
      go_wp2
      go_roundw
      case rel => exact ⟨k + 1, by omega, by go_num, by go_num, trivial⟩
      case measure => simp [intOf]; omega
    · have hk' : k = n := by omega
      subst hk'
      go_wp2
      go_ret
      exact ⟨rfl, rfl⟩
/-- Only blocks from lo on and before hi may have changed. -/
def Win (lo hi : Nat) (w w' : World) : Prop := Below lo w w' ∧ ∀ k, hi ≤ k → k < w.heap.size → w'.heap[k]? = w.heap[k]?
theorem Win.refl (lo hi : Nat) (w : World) : Win lo hi w w := ⟨Below.refl _ _, fun _ _ _ => rfl⟩
theorem Win.trans {lo hi : Nat} {a b c : World} (h : Win lo hi a b) (h' : Win lo hi b c) : Win lo hi a c :=
  ⟨h.1.trans h'.1, fun k h1 h2 => (h'.2 k h1 (Nat.lt_of_lt_of_le h2 h.1.size)).trans (h.2 k h1 h2)⟩
theorem Win.of_below {lo hi : Nat} {w w' : World} (h : Below w.heap.size w w') (hl : lo ≤ w.heap.size) : Win lo hi w w' := ⟨h.mono hl, fun k _ hk => h.block k hk⟩
theorem Win.of_grown {lo hi : Nat} {w w' : World} {row : Option Nat} (h : w.grownBy w' row) (hl : lo ≤ w.heap.size) (h1 : ∀ k, row = some k → lo ≤ k ∧ k < hi) : Win lo hi w w' :=
  ⟨⟨h.os, h.tape, h.output, h.size, fun k hk => h.block k (by omega) (fun e => by have := h1 k e.symm; omega)⟩, fun k h2 hk => h.block k hk (fun e => by have := h1 k e.symm; omega)⟩
theorem Win.own {lo hi B sz n : Nat} {e : TypeId} {w w' : World} {v : Value} {xs : List Value} (h : Win lo hi w w') (ho : w.ownsRow B e sz v n xs) (hB : hi ≤ B) : w'.ownsRow B e sz v n xs := by
  refine ⟨ho.1, ?_⟩
  rcases ho.2 with h0 | ⟨g, cap, cur, hv, hb, hg, r⟩
  · exact .inl h0
  · exact .inr ⟨g, cap, cur, hv, hb, by rw [h.2 g (by omega) (Array.getElem?_eq_some_iff.1 hg).1]; exact hg, r⟩

end Go.Proofs.YtbohakifjmdoiabDoor
