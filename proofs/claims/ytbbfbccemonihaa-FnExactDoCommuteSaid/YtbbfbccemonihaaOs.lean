/- ReorderSteps, of the model and of the program. -/
import Derived.Test.YtbbfbccemonihaaOr
import Derived.Test.YtbbfbccemonihaaSp
namespace Go.Proofs.Ytbbfbccemonihaa
open Go.RowKit

theorem pig : ∀ (m : Nat) (l : List Int), l.Nodup → (∀ x ∈ l, 0 ≤ x ∧ x < (m : Int)) → l.length ≤ m := by
  intro m
  induction m with
  | zero =>
    intro l _ h
    cases l with
    | nil => simp
    | cons x l => have := h x (by simp); omega
  | succ m ih =>
    intro l hn h
    by_cases hm : (m : Int) ∈ l
    · have h1 := ih (l.erase (m : Int)) (hn.erase _) (fun x hx => by
        obtain ⟨h2, h3⟩ := (hn.mem_erase_iff).1 hx
        have := h x h3
        omega)
      rw [List.length_erase_of_mem hm] at h1
      omega
    · have h1 := ih l hn (fun x hx => by
        have h2 := h x hx
        have h3 : x ≠ (m : Int) := fun e => hm (e ▸ hx)
        omega)
      omega
theorem pig_mem {m : Nat} {l : List Int} (hn : l.Nodup) (h : ∀ x ∈ l, 0 ≤ x ∧ x < (m : Int)) (hl : l.length = m) {x : Int} (h0 : 0 ≤ x) (h1 : x < m) : x ∈ l := by
  by_cases hx : x ∈ l
  · exact hx
  · exfalso
    have := pig m (x :: l) (List.nodup_cons.2 ⟨hx, hn⟩) (fun y hy => by
      rcases List.mem_cons.1 hy with rfl | hy
      · exact ⟨h0, h1⟩
      · exact h y hy)
    simp at this
    omega

def prmAt (m : Nat) (l : List Int) (i : Nat) : Bool := hasB (l.getD i 0) m && !hasI (l.take i) (l.getD i 0)
def prmK (m : Nat) (l : List Int) (k : Nat) : Bool := (List.range k).all (prmAt m l)
def prmB (m : Nat) (l : List Int) : Bool := decide (l.length = m) && prmK m l l.length
theorem prmK_succ (m : Nat) (l : List Int) (k : Nat) : prmK m l (k + 1) = (prmK m l k && prmAt m l k) := by
  unfold prmK
  rw [List.range_succ, List.all_append]
  simp
theorem prmB_bad {m : Nat} {l : List Int} {k : Nat} (hk : k < l.length) (h : prmAt m l k = false) : prmB m l = false := by
  unfold prmB prmK
  rw [Bool.and_eq_false_iff]
  right
  rw [List.all_eq_false]
  exact ⟨k, by simpa using hk, by rw [h]; decide⟩
theorem prm_facts {m : Nat} {l : List Int} (h : prmB m l = true) : l.length = m ∧ l.Nodup ∧ ∀ x ∈ l, 0 ≤ x ∧ x < (m : Int) := by
  unfold prmB prmK at h
  rw [Bool.and_eq_true, decide_eq_true_eq, List.all_eq_true] at h
  obtain ⟨h1, h2⟩ := h
  have key : ∀ i (hi : i < l.length), (0 ≤ l[i] ∧ l[i] < (m : Int)) ∧ hasI (l.take i) l[i] = false := fun i hi => by
    have h3 := h2 i (by simpa using hi)
    have e : l.getD i 0 = l[i] := by simp [hi]
    unfold prmAt at h3
    rw [e, Bool.and_eq_true] at h3
    refine ⟨by simpa [hasB] using h3.1, by simpa using h3.2⟩
  refine ⟨h1, ?_, fun x hx => ?_⟩
  · rw [List.nodup_iff_pairwise_ne, List.pairwise_iff_getElem]
    intro i j hi hj hij he
    have h3 := (key j hj).2
    unfold hasI at h3
    simp only [List.contains_eq_mem, decide_eq_false_iff_not] at h3
    refine h3 (List.mem_iff_getElem.2 ⟨i, by simp; omega, ?_⟩)
    rw [List.getElem_take]
    exact he
  · obtain ⟨i, hi, rfl⟩ := List.mem_iff_getElem.1 hx
    exact (key i hi).1
theorem ord_split (N : Nat) (p : Pl) (l : List Int) : ordB N p l = (prmB p.s.length l && kOk N p l l.length) := by
  unfold ordB prmB ordK prmK kOk
  rw [Bool.and_assoc]
  congr 1
  rw [Bool.eq_iff_iff, Bool.and_eq_true, List.all_eq_true, List.all_eq_true, List.all_eq_true]
  have hb : ∀ x : Int, inB x 0 ((p.s.length : Int) - 1) = hasB x p.s.length := fun x => by
    rw [Bool.eq_iff_iff]
    simp only [inB, hasB, Bool.and_eq_true, decide_eq_true_eq]
    omega
  constructor
  · intro h
    refine ⟨fun i hi => ?_, fun i hi => ?_⟩
    · have := h i hi
      unfold ordAt at this
      rw [Bool.and_eq_true, Bool.and_eq_true, hb] at this
      unfold prmAt
      rw [this.1, this.2.1]
      rfl
    · have := h i hi
      unfold ordAt at this
      rw [Bool.and_eq_true, Bool.and_eq_true] at this
      exact this.2.2
  · intro h i hi
    have h1 := h.1 i hi
    have h2 := h.2 i hi
    unfold prmAt at h1
    rw [Bool.and_eq_true] at h1
    unfold ordAt
    rw [hb, h1.1, h1.2, h2]
    rfl

theorem info_boolB : (Try.prog.info? 4).map (fun i => (i.zero, i.size, i.bytes)) = some (some (.bool false), 1, 1) := by kernel_rfl
def boolsB (l : List Int) (R : Nat) : List Value := (List.range R).map fun v : Nat => Value.bool (hasI l (v : Int))
theorem boolsB_length (l : List Int) (R : Nat) : (boolsB l R).length = R := by simp [boolsB]
theorem boolsB_nil (R : Nat) : boolsB [] R = List.replicate R (.bool false) := by
  apply List.ext_getElem?
  intro j
  by_cases hj : j < R <;> simp [boolsB, hj, hasI]
theorem boolsB_set (l : List Int) {R a : Nat} (ha : a < R) : (boolsB l R).set a (.bool true) = boolsB (l ++ [(a : Int)]) R := by
  apply List.ext_getElem?
  intro j
  by_cases hj : j < R
  · by_cases hja : a = j
    · subst hja
      rw [List.getElem?_set_self (by rw [boolsB_length]; exact ha)]
      simp [boolsB, ha, hasI]
    · rw [List.getElem?_set_ne hja]
      have : ¬ (j : Int) = (a : Int) := by omega
      simp [boolsB, hj, hasI, this]
  · rw [List.getElem?_eq_none (by simp [boolsB]; omega), List.getElem?_eq_none (by simp [boolsB]; omega)]
theorem boolsB_at (l : List Int) {R a : Nat} (ha : a < R) : (boolsB l R)[a]? = some (.bool (hasI l (a : Int))) := by simp [boolsB, ha]
theorem boolsB_own {w : World} {B : Nat} (n : Nat) (hn : n ≤ 1000) (hB : B ≤ w.heap.size) :
    (w.alloc (.cells (madeCells #[Value.bool false] n) 4)).ownsRow B 4 1 (.slice (some ⟨w.heap.size, 0, none⟩) n n) n (boolsB [] n) := by
  have h := World.ownsRow_lit (base := B) (e := 4) (size := 1) w (madeCells #[Value.bool false] n) n hB (by unfold maxLen; omega) (by simp [size_madeCells])
  rw [toList_madeCells_one] at h
  rw [boolsB_nil]
  exact h

set_option maxRecDepth 100000 in
set_option maxHeartbeats 2000000 in
theorem isOrderOf_any (B m : Nat) (AL : Option Addr) (cl : Nat) (l : List Int) (w : World) (hm : m ≤ 1000) (hll : l.length ≤ 1048576) (hB : B ≤ w.heap.size) (hrl : Rd w B 1 AL l.length (l.map I)) :
    Calls Try.prog 86 #[.slice AL l.length cl, .int .i64 (m : Int)] w fun e w' => e = .returned (.bool (prmB m l)) ∧ Below w.heap.size w w' := by
  have HL := Lib.hid hrl
  clear hrl
  by_cases hlen : l.length = m
  case neg =>
    have hb : prmB m l = false := by simp [prmB, hlen]
    have HBF := Lib.hid hb
    have hne : ((l.length : Int) != (m : Int)) = true := by rw [bne_iff_ne]; omega
    clear hb hlen
    go_enter Try.func86, Try.ntmps86
    go_wp2
    go_ret
    exact ⟨ret_bool HBF.out.symm, Below.refl _ _⟩
  case pos =>
  have hne : ((l.length : Int) != (m : Int)) = false := by simp [hlen]
  have HLEN := Lib.hid hlen
  have hmk := run_make_row' (P := Try.prog) 125 4 (.bool false) 1 Try.underlying125 info_boolB rfl .i64 .i64 m (by omega) (by omega)
  clear hlen
  go_enter Try.func86, Try.ntmps86
  go_wp2
  clear hmk
  generalize hw2 : World.alloc w _ = w2
  have hmade : w2.ownsRow w.heap.size 4 1 (.slice (some ⟨w.heap.size, 0, none⟩) m m) m (boolsB [] m) := by rw [← hw2]; exact boolsB_own m hm (Nat.le_refl _)
  have hb2 : Below w.heap.size w w2 := by rw [← hw2]; exact (Below.refl _ _).alloc (Nat.le_refl _) _
  clear hw2
  have HM := Lib.hid hmade
  have HB2 := Lib.hid hb2
  clear hmade hb2
  go_loopw [16] (fun iv wr => ∃ k : Nat, k ≤ l.length ∧ iv = .int .i64 k ∧ prmK m l k = true ∧ wr.ownsRow w.heap.size 4 1 (.slice (some ⟨w.heap.size, 0, none⟩) m m) m (boolsB (l.take k) m) ∧ Below w.heap.size w wr) (fun i _ => l.length - (intOf i).toNat)
  case atStart => exact ⟨0, by omega, rfl, rfl, HM.out, HB2.out⟩
  case round =>
    obtain ⟨k, hk, rfl, hq, hown, hbel⟩ := hrel
    have Q := Lib.hid hq
    have OWN := Lib.hid hown
    have BEL := Lib.hid hbel
    by_cases hlt : k < l.length
    · obtain ⟨lb, lo, rfl, hlb, hlc⟩ := (HL.out.below' hbel hB).int hlt
      obtain ⟨x, hx⟩ : ∃ x, l[k] = x := ⟨_, rfl⟩
      rw [hx] at hlc
      have hget : l.getD k 0 = x := by simp [hlt, hx]
      have HX := Lib.hid hx
      have HGET := Lib.hid hget
      clear hq hown hbel hx hget
      by_cases h0 : x < 0
      · have hb : prmB m l = false := prmB_bad hlt (by
          unfold prmAt hasB
          rw [HGET.out]
          have : ¬ 0 ≤ x := by omega
          simp [this])
        have HBF := Lib.hid hb
        clear hb
        go_wp2
        go_ret
        exact ⟨ret_bool HBF.out.symm, BEL.out⟩
      · by_cases h1 : (m : Int) ≤ x
        · have hb : prmB m l = false := prmB_bad hlt (by
            unfold prmAt hasB
            rw [HGET.out]
            have : ¬ x < (m : Int) := by omega
            simp [this])
          have HBF := Lib.hid hb
          clear hb
          go_wp2
          go_ret
          exact ⟨ret_bool HBF.out.symm, BEL.out⟩
        · obtain ⟨n, rfl⟩ : ∃ n : Nat, x = n := ⟨x.toNat, by omega⟩
          have hnm : n < m := by omega
          have inm : (n : Int) < (m : Int) := by omega
          have hc : wr.cell? ⟨w.heap.size, n, none⟩ = some (.bool (hasI (l.take k) (n : Int))) := by rw [OWN.out.cellAt _ (by omega)]; exact boolsB_at _ hnm
          have hf : wr.frozen? ⟨w.heap.size, n, none⟩ = false := OWN.out.frozenAt _
          have hnn : ¬ m ≤ n := by omega
          cases hh : hasI (l.take k) (n : Int) with
          | true =>
            rw [hh] at hc
            have hb : prmB m l = false := prmB_bad hlt (by
              unfold prmAt
              rw [HGET.out, hh]
              simp)
            have HBF := Lib.hid hb
            clear hb hh
            go_wp2
            go_ret
            exact ⟨ret_bool HBF.out.symm, BEL.out⟩
          | false =>
            rw [hh] at hc
            have hat : prmAt m l k = true := by
              unfold prmAt hasB
              rw [HGET.out, hh]
              simp [hnm]
            have HAT := Lib.hid hat
            clear hat hh
            go_wp2
            go_roundw
            case rel =>
              refine ⟨k + 1, by omega, by go_num, by rw [prmK_succ, Q.out, HAT.out]; rfl, ?_, BEL.out.setCell (Nat.le_refl _) _⟩
              have h := (OWN.out.stored n (.bool true)).1
              rw [boolsB_set _ hnm, ← HX.out, ← List.take_succ_eq_append_getElem hlt] at h
              exact h
            case measure => simp [intOf]; omega
    · have hk' : k = l.length := by omega
      rw [hk'] at hq
      have hb : prmB m l = true := by
        unfold prmB
        rw [hq, Bool.and_true]
        exact decide_eq_true HLEN.out
      have HBF := Lib.hid hb
      clear hb hq hk' hown hbel
      go_wp2
      go_ret
      exact ⟨ret_bool HBF.out.symm, BEL.out⟩
end Go.Proofs.Ytbbfbccemonihaa
