/- Joined: Uu Uv Ka Kb Kc Kd Ta Tb Rka Rkb Rkc Rkd Rpk Ja Qm Qa Qb Qc Qd Qe Qf Qg Qn0 Rma Gr Ca Cb. -/
import Derived.Test.YtbbjgcagkmlngabPP0
import Derived.Lib.AppendZeros
import Derived.Lib.AppendZerosOnto
/- Used steps: the program's. -/
namespace Go.Proofs.Ytbbjgcagkmlngab
open Go.RowKit

theorem info_bool : (Try.prog.info? 4).map (fun i => (i.zero, i.size, i.bytes)) = some (some (.bool false), 1, 1) := by kernel_rfl
def bools (l : List Int) (R : Nat) : List Value := (List.range R).map fun v : Nat => Value.bool (hasI l (v : Int))
theorem bools_length (l : List Int) (R : Nat) : (bools l R).length = R := by simp [bools]
theorem bools_nil (R : Nat) : bools [] R = List.replicate R (.bool false) := by
  apply List.ext_getElem?
  intro j
  by_cases hj : j < R <;> simp [bools, hj, hasI]
theorem bools_set (l : List Int) {R a : Nat} (ha : a < R) : (bools l R).set a (.bool true) = bools (l ++ [(a : Int)]) R := by
  apply List.ext_getElem?
  intro j
  by_cases hj : j < R
  · by_cases hja : a = j
    · subst hja
      rw [List.getElem?_set_self (by rw [bools_length]; exact ha)]
      simp [bools, ha, hasI]
    · rw [List.getElem?_set_ne hja]
      have : ¬ (j : Int) = (a : Int) := by omega
      simp [bools, hj, hasI, this]
  · rw [List.getElem?_eq_none (by simp [bools]; omega), List.getElem?_eq_none (by simp [bools]; omega)]
theorem bools_at (l : List Int) {R a : Nat} (ha : a < R) : (bools l R)[a]? = some (.bool (hasI l (a : Int))) := by simp [bools, ha]
theorem box4 {w w1 : World} {a b c d : Value} {t : TypeId} (h : w.alloc (.cells #[a, b, c, d] t) = w1) :
    w1.cell? ⟨w.heap.size, 0, none⟩ = some a ∧ w1.cell? ⟨w.heap.size, 1, none⟩ = some b ∧ w1.cell? ⟨w.heap.size, 2, none⟩ = some c ∧ w1.cell? ⟨w.heap.size, 3, none⟩ = some d ∧ w1.heap.size = w.heap.size + 1 ∧ Below w.heap.size w w1 := by
  subst h
  refine ⟨?_, ?_, ?_, ?_, by simp, (Below.refl _ _).alloc (Nat.le_refl _) _⟩ <;> (rw [World.cell?_alloc_at _ _ _ _ rfl]; rfl)
theorem bools_own {w : World} {B : Nat} (n : Nat) (hn : n ≤ 1000) (hB : B ≤ w.heap.size) :
    (w.alloc (.cells (madeCells #[Value.bool false] n) 4)).ownsRow B 4 1 (.slice (some ⟨w.heap.size, 0, none⟩) n n) n (bools [] n) := by
  have h := World.ownsRow_lit (base := B) (e := 4) (size := 1) w (madeCells #[Value.bool false] n) n hB (by unfold maxLen; omega) (by simp [size_madeCells])
  rw [toList_madeCells_one] at h
  rw [bools_nil]
  exact h

/-- A store of true. -/
theorem own_set1 {w : World} {B g R a : Nat} {l : List Int} (h : w.ownsRow B 4 1 (.slice (some ⟨g, 0, none⟩) R R) R (bools l R)) (ha : a < R) :
    w.frozen? ⟨g, a, none⟩ = false ∧ (∃ u, w.cell? ⟨g, a, none⟩ = some (.bool u)) ∧ (w.setCell ⟨g, a, none⟩ (.bool true)).ownsRow B 4 1 (.slice (some ⟨g, 0, none⟩) R R) R (bools (l ++ [(a : Int)]) R) := by
  refine ⟨h.frozenAt _, ⟨_, by rw [h.cellAt _ (by omega)]; exact bools_at _ ha⟩, ?_⟩
  have h1 := (h.stored a (.bool true)).1
  rw [bools_set _ ha] at h1
  exact h1

def usP (N : Nat) (s : List (Int × Int)) (o : List Int) (k : Nat) : List Int := ((List.range k).filter (finI N s o)).map fun i : Nat => (i : Int)
theorem usP_all (N : Nat) (s : List (Int × Int)) (o : List Int) : usP N s o s.length = usd N s o := by
  unfold usP usd usT
  rw [Nat.sub_self, List.range_eq_range']
theorem usP_len (N : Nat) (s : List (Int × Int)) (o : List Int) (k : Nat) : (usP N s o k).length ≤ k := by
  unfold usP
  rw [List.length_map]
  exact Nat.le_trans (List.length_filter_le _ _) (by simp)
theorem usP_hit {N : Nat} {s : List (Int × Int)} {o : List Int} {k : Nat} (h : finI N s o k = true) : usP N s o (k + 1) = usP N s o k ++ [(k : Int)] := by
  unfold usP
  rw [List.range_succ, List.filter_append, List.map_append]
  simp [h]
theorem usP_miss {N : Nat} {s : List (Int × Int)} {o : List Int} {k : Nat} (h : finI N s o k = false) : usP N s o (k + 1) = usP N s o k := by
  unfold usP
  rw [List.range_succ, List.filter_append, List.map_append]
  simp [h]

end Go.Proofs.Ytbbjgcagkmlngab
/- UsedSteps and IsTrim, of the model and of the program. -/
namespace Go.Proofs.Ytbbjgcagkmlngab
open Go.RowKit

def usdP (p : Pl) : List Int := if good p then usd p.n.toNat p.s p.o else []
def trimB (p : Pl) : Bool := good p && decide ((usdP p).length = p.s.length)
theorem usdP_len (p : Pl) : (usdP p).length ≤ 40 := by
  unfold usdP
  split
  · rename_i h
    obtain ⟨N, hN, _, _, h40, _⟩ := good_facts h
    have := us_len p.n.toNat p.s p.o p.s.length
    unfold usd
    omega
  · simp

theorem rows_len {p : Pl} {N : Nat} (hN : p.n = N) : ((exps p.n.toNat p.s).map (pad p.n.toNat)).length = N + p.s.length := by
  rw [List.length_map, exps_length]
  omega
theorem box5 {w w1 : World} {a b c d : Value} {t : TypeId} (h : w.alloc (.cells #[a, b, c, d] t) = w1) : w1.heap.size = w.heap.size + 1 ∧ Below w.heap.size w w1 := (box4 h).2.2.2.2

end Go.Proofs.Ytbbjgcagkmlngab
/- New numbers of values: what they are; the model's small functions. -/
namespace Go.Proofs.Ytbbjgcagkmlngab
open Go.RowKit

def plc : List Int → Int → Nat → Int
  | [], _, _ => -1
  | x :: l, n, k => if x == n then (k : Int) else plc l n (k + 1)
theorem plc_app (l r : List Int) (n : Int) (k : Nat) : plc (l ++ r) n k = if hasI l n then plc l n k else plc r n (k + l.length) := by
  induction l generalizing k with
  | nil => simp [hasI]
  | cons x l ih =>
    by_cases h : x = n
    · subst h
      simp [plc, hasI]
    · have h1 : (x == n) = false := by simpa using h
      have h2 : hasI (x :: l) n = hasI l n := by
        unfold hasI
        rw [Bool.eq_iff_iff]
        simp
        intro e
        exact absurd e.symm h
      simp only [List.cons_append, plc, h1, h2, Bool.false_eq_true, if_false]
      rw [ih]
      simp only [List.length_cons]
      rw [show k + 1 + l.length = k + (l.length + 1) by omega]
theorem plc_none {l : List Int} {n : Int} (h : hasI l n = false) (k : Nat) : plc l n k = -1 := by
  have h1 := plc_app l [] n k
  rw [List.append_nil, h] at h1
  rw [h1]
  rfl
theorem plc_bd (l : List Int) (n : Int) (k : Nat) : -1 ≤ plc l n k ∧ plc l n k < k + l.length + 1 := by
  induction l generalizing k with
  | nil => simp [plc]; omega
  | cons x l ih =>
    unfold plc
    split
    · simp only [List.length_cons]; omega
    · have := ih (k + 1)
      simp only [List.length_cons]
      omega
theorem plc_nonneg {l : List Int} {n : Int} (h : hasI l n = true) (k : Nat) : (k : Int) ≤ plc l n k := by
  induction l generalizing k with
  | nil => simp [hasI] at h
  | cons x l ih =>
    unfold plc
    split
    · omega
    · rename_i hx
      have h2 : hasI l n = true := by
        unfold hasI at h ⊢
        simp at h hx ⊢
        rcases h with h | h
        · exact absurd h.symm hx
        · exact h
      have := ih h2 (k + 1)
      omega
theorem plc_hit {l : List Int} {n : Int} {k : Nat} (hk : k < l.length) (hq : hasI (l.take k) n = false) (h : (l[k] == n) = true) : plc l n 0 = k := by
  have e : l = l.take k ++ l[k] :: l.drop (k + 1) := by simp
  have h1 := plc_app (l.take k) (l[k] :: l.drop (k + 1)) n 0
  rw [← e, hq] at h1
  rw [h1]
  simp only [Bool.false_eq_true, if_false, plc, h, if_true]
  simp
  omega

def numI (N : Nat) (l : List Int) (v : Int) : Int := if v < N then v else N + plc l (v - N) 0
def stI (a b : Int) : Int × Int := (leastI a b, mostI a b)
def keepS (p : Pl) (N : Nat) (l : List Int) (k : Nat) : List (Int × Int) := (l.take k).map fun i => stI (numI N l (p.s.getD i.toNat (0, 0)).1) (numI N l (p.s.getD i.toNat (0, 0)).2)
def keepO (p : Pl) (N : Nat) (l : List Int) (k : Nat) : List Int := (p.o.take k).map (numI N l)
theorem keepS_len (p : Pl) (N : Nat) (l : List Int) {k : Nat} (hk : k ≤ l.length) : (keepS p N l k).length = k := by simp [keepS]; omega
theorem keepO_len (p : Pl) (N : Nat) (l : List Int) {k : Nat} (hk : k ≤ p.o.length) : (keepO p N l k).length = k := by simp [keepO]; omega
theorem keepS_succ {p : Pl} {N : Nat} {l : List Int} {k n : Nat} (hk : k < l.length) (hn : l[k] = (n : Int)) (hns : n < p.s.length) : keepS p N l (k + 1) = keepS p N l k ++ [stI (numI N l (p.s[n]).1) (numI N l (p.s[n]).2)] := by
  unfold keepS
  rw [List.take_succ_eq_append_getElem hk, List.map_append, hn]
  simp [hns]
theorem keepO_succ {p : Pl} {N : Nat} {l : List Int} {k : Nat} (hk : k < p.o.length) : keepO p N l (k + 1) = keepO p N l k ++ [numI N l p.o[k]] := by
  unfold keepO
  rw [List.take_succ_eq_append_getElem hk, List.map_append]
  rfl
theorem numI_bd {N : Nat} {l : List Int} {v : Int} (h6 : N ≤ 6) (h0 : 0 ≤ v) : -1 ≤ numI N l v ∧ numI N l v ≤ N + l.length := by
  unfold numI
  split
  · omega
  · have := plc_bd l (v - N) 0
    omega

set_option maxHeartbeats 400000 in
theorem plPlace_any (B : Nat) (A : Option Addr) (c : Nat) (l : List Int) (n : Int) (w : World) (hm : l.length ≤ 4000000) (hr : Rd w B 1 A l.length (l.map I)) :
    Calls Try.prog 141 #[.slice A l.length c, .int .i64 n] w fun e w' => e = .returned (.int .i64 (plc l n 0)) ∧ w = w' := by
  have H := Lib.hid hr
  clear hr
  go_enter Try.func141, Try.ntmps141
  go_wp2
  go_loop [9] (fun i => ∃ k : Nat, k ≤ l.length ∧ i = .int .i64 k ∧ hasI (l.take k) n = false) (fun i => l.length - (intOf i).toNat)
  case atStart => exact ⟨0, by omega, rfl, rfl⟩
  case round =>
    obtain ⟨k, hk, rfl, hq⟩ := hrel
    have Q := Lib.hid hq
    clear hq
    by_cases hlt : k < l.length
    · obtain ⟨b, off, rfl, hb, hcell⟩ := H.out.int hlt
      go_wp2
      · go_ret
        exact ⟨ret_int (plc_hit hlt Q.out (by assumption)).symm, rfl⟩
      · have hne : (l[k] == n) = false := by assumption
        go_round
        case rel => exact ⟨k + 1, by omega, by go_num, by rw [hasI_take hlt Q.out]; exact hne⟩
        case measure => simp [intOf]; omega
    · have hk' : k = l.length := by omega
      have hq := Q.out
      rw [hk', List.take_of_length_le (Nat.le_refl _)] at hq
      have e := plc_none hq 0
      have E := Lib.hid e
      clear hq e hk'
      go_wp2
      go_ret
      exact ⟨ret_int E.out.symm, rfl⟩

set_option maxHeartbeats 400000 in
theorem plStep_any (a b : Int) (w : World) :
    Calls Try.prog 93 #[.int .i64 a, .int .i64 b] w fun e w' => e = .returned (.agg #[.int .i64 (leastI a b), .int .i64 (mostI a b)]) ∧ Below w.heap.size w w' := by
  go_enter Try.func93, Try.ntmps93
  go_wp2_with (first | (go_at_call 140; refine (l1Least_any _ _ _).mono ?_; rintro e w' ⟨rfl, rfl⟩) | (go_at_call 92; refine (l1Most_any _ _ _).mono ?_; rintro e w' ⟨rfl, rfl⟩))
  refine bodyPost_ret (v := .agg #[.int .i64 (leastI a b), .int .i64 (mostI a b)]) (by simp [results, Try.results93, go_sem]) rfl ⟨rfl, ?_⟩
  exact (Below.refl _ _).alloc (Nat.le_refl _) _
end Go.Proofs.Ytbbjgcagkmlngab
/- A plan with only some steps, in an order: the model's. -/
namespace Go.Proofs.Ytbbjgcagkmlngab
open Go.RowKit

/-- Three stores into a plan's box. -/
theorem own_set3 {w : World} {g B sz n : Nat} {t e : TypeId} {v : Value} {xs : List Value} {cs : Array Value} (h : w.ownsRow B e sz v n xs) (hg : w.heap[g]? = some (.cells cs t (0, 0))) (ht : t ≠ e) (a b c : Value) :
    (((w.setCell ⟨g, 0, none⟩ a).setCell ⟨g, 1, none⟩ b).setCell ⟨g, 2, none⟩ c).ownsRow B e sz v n xs := by
  have h1 := own_set (o := 0) h hg ht a
  have k1 := heap_setCell_same w g 0 _ t a hg
  have h2 := own_set (o := 1) h1 k1 ht b
  have k2 := heap_setCell_same _ g 1 _ t b k1
  exact own_set (o := 2) h2 k2 ht c

end Go.Proofs.Ytbbjgcagkmlngab
/- New numbers of values: the program's small functions. -/
namespace Go.Proofs.Ytbbjgcagkmlngab
open Go.RowKit

def ups (n : Nat) : List Int := (List.range n).map fun i : Nat => (i : Int)
theorem ups_length (n : Nat) : (ups n).length = n := by simp [ups]
theorem ups_succ (n : Nat) : ups (n + 1) = ups n ++ [(n : Int)] := by
  unfold ups
  rw [List.range_succ, List.map_append]
  rfl
/-- One more cell of a row that is being filled. -/
theorem fill_next (l : List Int) (x : Int) {n k : Nat} (hl : l.length = k) (hk : k < n) :
    (l.map I ++ List.replicate (n - k) (I 0)).set k (I x) = (l ++ [x]).map I ++ List.replicate (n - (k + 1)) (I 0) := by
  rw [List.set_append_right _ _ (by simp; omega), List.length_map, hl, Nat.sub_self, show n - k = (n - (k + 1)) + 1 from by omega, List.replicate_succ, List.set_cons_zero]
  simp
theorem zeros_row {w : World} {B : Nat} (n : Nat) (hn : n ≤ 1000) (hB : B ≤ w.heap.size) :
    (w.alloc (.cells (madeCells #[Value.int .i64 0] n) 3)).ownsRow B 3 1 (.slice (some ⟨w.heap.size, 0, none⟩) n n) n (List.replicate n (I 0)) := by
  have h := World.ownsRow_lit (base := B) (e := 3) (size := 1) w (madeCells #[Value.int .i64 0] n) n hB (by unfold maxLen; omega) (by simp [size_madeCells])
  rw [toList_madeCells_one] at h
  exact h

set_option maxRecDepth 100000 in
set_option maxHeartbeats 1000000 in
theorem renamed_any (B : Nat) (A A' : Option Addr) (c c' : Nat) (o nm : List Int) (w : World) (hm : o.length ≤ 1000) (hB : B ≤ w.heap.size) (hin : ∀ x ∈ o, 0 ≤ x ∧ x < nm.length) (hr : Rd w B 1 A o.length (o.map I)) (hr' : Rd w B 1 A' nm.length (nm.map I)) :
    Calls Try.prog 98 #[.slice A o.length c, .slice A' nm.length c'] w fun e w' => ∃ A2 c2, e = .returned (.slice A2 o.length c2) ∧ OwI w' w.heap.size (.slice A2 o.length c2) (o.map fun x => nm.getD x.toNat 0) ∧ Below w.heap.size w w' := by
  have H := Lib.hid hr
  have H' := Lib.hid hr'
  have HIN := Lib.hid hin
  clear hr hr' hin
  have hmk := run_make_row' (P := Try.prog) 22 3 (.int .i64 0) 8 Try.underlying22 info_int rfl .i64 .i64 o.length (by omega) (by omega)
  go_enter Try.func98, Try.ntmps98
  go_wp2
  clear hmk
  generalize hw2 : World.alloc w _ = w2
  have hmade : w2.ownsRow w.heap.size 3 1 (.slice (some ⟨w.heap.size, 0, none⟩) o.length o.length) o.length (List.replicate o.length (I 0)) := by rw [← hw2]; exact zeros_row o.length hm (Nat.le_refl _)
  have hb2 : Below w.heap.size w w2 := by rw [← hw2]; exact (Below.refl _ _).alloc (Nat.le_refl _) _
  clear hw2
  have HM := Lib.hid hmade
  have HB2 := Lib.hid hb2
  clear hmade hb2
  go_loopw [13] (fun i wr => ∃ k : Nat, k ≤ o.length ∧ i = .int .i64 k ∧ wr.ownsRow w.heap.size 3 1 (.slice (some ⟨w.heap.size, 0, none⟩) o.length o.length) o.length (((o.take k).map fun x => nm.getD x.toNat 0).map I ++ List.replicate (o.length - k) (I 0)) ∧ Below w.heap.size w wr) (fun i _ => o.length - (intOf i).toNat)
  case atStart => exact ⟨0, by omega, rfl, by simpa using HM.out, HB2.out⟩
  case round =>
    obtain ⟨k, hk, rfl, hown, hbel⟩ := hrel
    have OWN := Lib.hid hown
    have BEL := Lib.hid hbel
    by_cases hlt : k < o.length
    · obtain ⟨ob, oo, rfl, hob, hoc⟩ := (H.out.below' hbel hB).int hlt
      obtain ⟨q1, q2⟩ := HIN.out _ (List.getElem_mem hlt)
      obtain ⟨v, hv⟩ : ∃ v : Nat, o[k] = v := ⟨(o[k]).toNat, by omega⟩
      rw [hv] at hoc q2
      have hvl : v < nm.length := by omega
      obtain ⟨nb, no, rfl, hnb, hnc⟩ := (H'.out.below' hbel hB).int hvl
      have hkl : (List.map I (List.map (fun x => nm.getD x.toNat 0) (List.take k o))).length = k := by simp; omega
      have hc : wr.cell? ⟨w.heap.size, k, none⟩ = some (I 0) := by
        rw [hown.cellAt _ (by omega)]
        exact rep_at (by omega) (by omega)
      have hf : wr.frozen? ⟨w.heap.size, k, none⟩ = false := hown.frozenAt _
      have HV := Lib.hid hv
      clear hown hbel hkl hv q1
      go_wp2
      go_roundw
      case rel =>
        refine ⟨k + 1, by omega, by go_num, ?_, BEL.out.setCell (Nat.le_refl _) _⟩
        have h := (OWN.out.stored k (I nm[v])).1
        rw [fill_next _ nm[v] (by simp; omega) hlt] at h
        have e : (List.take (k + 1) o).map (fun x => nm.getD x.toNat 0) = (List.take k o).map (fun x => nm.getD x.toNat 0) ++ [nm[v]] := by
          rw [List.take_succ_eq_append_getElem hlt, List.map_append, HV.out]
          simp [hvl]
        rw [e]
        exact h
      case measure => simp [intOf]; omega
    · have hk' : k = o.length := by omega
      subst hk'
      clear hown hbel
      go_wp2
      go_ret
      have h := OWN.out
      rw [List.take_of_length_le (Nat.le_refl _)] at h
      refine ⟨_, _, rfl, ?_, BEL.out⟩
      show World.ownsRow _ _ _ _ _ _ _
      rw [List.length_map]
      simpa using h


set_option maxRecDepth 100000 in
set_option maxHeartbeats 1000000 in
theorem renamedStep_any (B a b : Nat) (A : Option Addr) (c : Nat) (nm : List Int) (w : World) (hB : B ≤ w.heap.size) (ha : a < nm.length) (hb : b < nm.length) (hr : Rd w B 1 A nm.length (nm.map I)) :
    Calls Try.prog 143 #[.agg #[.int .i64 (a : Int), .int .i64 (b : Int)], .slice A nm.length c] w fun e w' => e = .returned (.agg #[.int .i64 (leastI nm[a] nm[b]), .int .i64 (mostI nm[a] nm[b])]) ∧ Below w.heap.size w w' := by
  obtain ⟨nb, no, rfl, hnb, hca⟩ := hr.int ha
  obtain ⟨nb', no', h2, _, hcb⟩ := hr.int hb
  obtain ⟨rfl, rfl⟩ : nb = nb' ∧ no = no' := by
    injection h2 with h2
    injection h2 with e1 e2
    exact ⟨e1, e2⟩
  have ia : (a : Int) < (nm.length : Int) := by omega
  have ib : (b : Int) < (nm.length : Int) := by omega
  clear hr h2
  obtain ⟨x, hx⟩ : ∃ x, nm[a] = x := ⟨_, rfl⟩
  obtain ⟨y, hy⟩ : ∃ y, nm[b] = y := ⟨_, rfl⟩
  rw [hx] at hca
  rw [hy] at hcb
  rw [hx, hy]
  clear hx hy
  have hcases : (x < y ∧ leastI x y = x ∧ mostI x y = y) ∨ (x = y ∧ leastI x y = x ∧ mostI x y = x) ∨ (y < x ∧ leastI x y = y ∧ mostI x y = x) := by
    unfold leastI mostI
    split <;> split <;> omega
  rcases hcases with ⟨hlt, e1, e2⟩ | ⟨hlt, e1, e2⟩ | ⟨hlt, e1, e2⟩
  · rw [e1, e2]
    clear e1 e2
    go_enter Try.func143, Try.ntmps143
    go_wp2
    generalize hw1 : World.alloc (World.alloc w _) _ = w1
    have q0 : w1.heap[w.heap.size]? = some (.cells #[.int .i64 (a : Int), .int .i64 (b : Int)] 114 (0, 0)) := by
      rw [← hw1, Below.heap_alloc _ _ _ (by simp)]; exact heap_alloc_new w _
    have q1 : w1.heap[w.heap.size + 1]? = some (.cells #[.int .i64 0, .int .i64 0] 114 (0, 0)) := by
      rw [← hw1]
      have := heap_alloc_new (w.alloc (.cells #[.int .i64 (a : Int), .int .i64 (b : Int)] 114)) (.cells #[.int .i64 0, .int .i64 0] 114)
      simpa using this
    have hb1 : Below w.heap.size w w1 := by rw [← hw1]; exact ((Below.refl _ _).alloc (Nat.le_refl _) _).alloc (by simp) _
    clear hw1
    have x0 : w1.cell? ⟨w.heap.size, 0, none⟩ = some (.int .i64 (a : Int)) := by rw [cell_of_row w1 _ 0 _ _ (0, 0) q0]; rfl
    have x1 : w1.cell? ⟨w.heap.size, 1, none⟩ = some (.int .i64 (b : Int)) := by rw [cell_of_row w1 _ 1 _ _ (0, 0) q0]; rfl
    have y0 : w1.cell? ⟨w.heap.size + 1, 0, none⟩ = some (.int .i64 0) := by rw [cell_of_row w1 _ 0 _ _ (0, 0) q1]; rfl
    have y1 : w1.cell? ⟨w.heap.size + 1, 1, none⟩ = some (.int .i64 0) := by rw [cell_of_row w1 _ 1 _ _ (0, 0) q1]; rfl
    have g0 : w1.frozen? ⟨w.heap.size + 1, 0, none⟩ = false := frozen_of_row w1 _ 0 _ _ q1
    have g1 : w1.frozen? ⟨w.heap.size + 1, 1, none⟩ = false := frozen_of_row w1 _ 1 _ _ q1
    have za : w1.cell? ⟨nb, no + a, none⟩ = _ := (hb1.cell (p := ⟨nb, no + a, none⟩) (by simp only []; omega)).trans hca
    have zb : w1.cell? ⟨nb, no + b, none⟩ = _ := (hb1.cell (p := ⟨nb, no + b, none⟩) (by simp only []; omega)).trans hcb
    have HB1 := Lib.hid hb1
    clear q0 q1 hca hcb hb1
    refine wp_region_Tw [0, 1, 2, 3, 4, 5, 6, 7, 8, 9, 10, 11] [2, 4, 7, 9] (.lp 0 (.lp 1 (.lp 5 (.lp 6 (.ls 2 (.lp 3 (.ls 4 (.lp 10 (.ls 7 (.lp 8 (.ls 9 (.lp 11 (.done))))))))))))) (by kernel_rfl) (by kernel_rfl) ?_
    (repeat (first | (refine T_lp rfl (fun K hK => ?_); go_simp; refine hK _ ?_; clear hK K) | (refine T_ls rfl rfl (fun K hK => ?_); go_simp; refine hK _ ?_; clear hK K)))
    refine T_done ?_
    go_wp2
    refine bodyPost_ret (v := .agg #[.int .i64 x, .int .i64 y]) (by simp [results, Try.results143, go_sem, y0, y1]) rfl ⟨rfl, ?_⟩
    exact ((HB1.out.setCell (by simp) _).setCell (by simp) _).drew
  · rw [e1, e2]
    clear e1 e2
    subst hlt
    go_enter Try.func143, Try.ntmps143
    go_wp2
    generalize hw1 : World.alloc (World.alloc w _) _ = w1
    have q0 : w1.heap[w.heap.size]? = some (.cells #[.int .i64 (a : Int), .int .i64 (b : Int)] 114 (0, 0)) := by
      rw [← hw1, Below.heap_alloc _ _ _ (by simp)]; exact heap_alloc_new w _
    have q1 : w1.heap[w.heap.size + 1]? = some (.cells #[.int .i64 0, .int .i64 0] 114 (0, 0)) := by
      rw [← hw1]
      have := heap_alloc_new (w.alloc (.cells #[.int .i64 (a : Int), .int .i64 (b : Int)] 114)) (.cells #[.int .i64 0, .int .i64 0] 114)
      simpa using this
    have hb1 : Below w.heap.size w w1 := by rw [← hw1]; exact ((Below.refl _ _).alloc (Nat.le_refl _) _).alloc (by simp) _
    clear hw1
    have x0 : w1.cell? ⟨w.heap.size, 0, none⟩ = some (.int .i64 (a : Int)) := by rw [cell_of_row w1 _ 0 _ _ (0, 0) q0]; rfl
    have x1 : w1.cell? ⟨w.heap.size, 1, none⟩ = some (.int .i64 (b : Int)) := by rw [cell_of_row w1 _ 1 _ _ (0, 0) q0]; rfl
    have y0 : w1.cell? ⟨w.heap.size + 1, 0, none⟩ = some (.int .i64 0) := by rw [cell_of_row w1 _ 0 _ _ (0, 0) q1]; rfl
    have y1 : w1.cell? ⟨w.heap.size + 1, 1, none⟩ = some (.int .i64 0) := by rw [cell_of_row w1 _ 1 _ _ (0, 0) q1]; rfl
    have g0 : w1.frozen? ⟨w.heap.size + 1, 0, none⟩ = false := frozen_of_row w1 _ 0 _ _ q1
    have g1 : w1.frozen? ⟨w.heap.size + 1, 1, none⟩ = false := frozen_of_row w1 _ 1 _ _ q1
    have za : w1.cell? ⟨nb, no + a, none⟩ = _ := (hb1.cell (p := ⟨nb, no + a, none⟩) (by simp only []; omega)).trans hca
    have zb : w1.cell? ⟨nb, no + b, none⟩ = _ := (hb1.cell (p := ⟨nb, no + b, none⟩) (by simp only []; omega)).trans hcb
    have HB1 := Lib.hid hb1
    clear q0 q1 hca hcb hb1
    refine wp_region_Tw [0, 1, 2, 3, 4, 5, 6, 7, 8, 9, 10, 11] [2, 4, 7, 9] (.lp 0 (.lp 1 (.lp 5 (.lp 6 (.ls 2 (.lp 3 (.ls 4 (.lp 10 (.ls 7 (.lp 8 (.ls 9 (.lp 11 (.done))))))))))))) (by kernel_rfl) (by kernel_rfl) ?_
    (repeat (first | (refine T_lp rfl (fun K hK => ?_); go_simp; refine hK _ ?_; clear hK K) | (refine T_ls rfl rfl (fun K hK => ?_); go_simp; refine hK _ ?_; clear hK K)))
    refine T_done ?_
    go_wp2
    refine bodyPost_ret (v := .agg #[.int .i64 x, .int .i64 x]) (by simp [results, Try.results143, go_sem, y0, y1]) rfl ⟨rfl, ?_⟩
    exact ((HB1.out.setCell (by simp) _).setCell (by simp) _).drew
  · rw [e1, e2]
    clear e1 e2
    go_enter Try.func143, Try.ntmps143
    go_wp2
    generalize hw1 : World.alloc (World.alloc w _) _ = w1
    have q0 : w1.heap[w.heap.size]? = some (.cells #[.int .i64 (a : Int), .int .i64 (b : Int)] 114 (0, 0)) := by
      rw [← hw1, Below.heap_alloc _ _ _ (by simp)]; exact heap_alloc_new w _
    have q1 : w1.heap[w.heap.size + 1]? = some (.cells #[.int .i64 0, .int .i64 0] 114 (0, 0)) := by
      rw [← hw1]
      have := heap_alloc_new (w.alloc (.cells #[.int .i64 (a : Int), .int .i64 (b : Int)] 114)) (.cells #[.int .i64 0, .int .i64 0] 114)
      simpa using this
    have hb1 : Below w.heap.size w w1 := by rw [← hw1]; exact ((Below.refl _ _).alloc (Nat.le_refl _) _).alloc (by simp) _
    clear hw1
    have x0 : w1.cell? ⟨w.heap.size, 0, none⟩ = some (.int .i64 (a : Int)) := by rw [cell_of_row w1 _ 0 _ _ (0, 0) q0]; rfl
    have x1 : w1.cell? ⟨w.heap.size, 1, none⟩ = some (.int .i64 (b : Int)) := by rw [cell_of_row w1 _ 1 _ _ (0, 0) q0]; rfl
    have y0 : w1.cell? ⟨w.heap.size + 1, 0, none⟩ = some (.int .i64 0) := by rw [cell_of_row w1 _ 0 _ _ (0, 0) q1]; rfl
    have y1 : w1.cell? ⟨w.heap.size + 1, 1, none⟩ = some (.int .i64 0) := by rw [cell_of_row w1 _ 1 _ _ (0, 0) q1]; rfl
    have g0 : w1.frozen? ⟨w.heap.size + 1, 0, none⟩ = false := frozen_of_row w1 _ 0 _ _ q1
    have g1 : w1.frozen? ⟨w.heap.size + 1, 1, none⟩ = false := frozen_of_row w1 _ 1 _ _ q1
    have za : w1.cell? ⟨nb, no + a, none⟩ = _ := (hb1.cell (p := ⟨nb, no + a, none⟩) (by simp only []; omega)).trans hca
    have zb : w1.cell? ⟨nb, no + b, none⟩ = _ := (hb1.cell (p := ⟨nb, no + b, none⟩) (by simp only []; omega)).trans hcb
    have HB1 := Lib.hid hb1
    clear q0 q1 hca hcb hb1
    refine wp_region_Tw [0, 1, 2, 3, 4, 5, 6, 7, 8, 9, 10, 11] [2, 4, 7, 9] (.lp 0 (.lp 1 (.lp 5 (.lp 6 (.ls 2 (.lp 3 (.ls 4 (.lp 10 (.ls 7 (.lp 8 (.ls 9 (.lp 11 (.done))))))))))))) (by kernel_rfl) (by kernel_rfl) ?_
    (repeat (first | (refine T_lp rfl (fun K hK => ?_); go_simp; refine hK _ ?_; clear hK K) | (refine T_ls rfl rfl (fun K hK => ?_); go_simp; refine hK _ ?_; clear hK K)))
    refine T_done ?_
    go_wp2
    refine bodyPost_ret (v := .agg #[.int .i64 y, .int .i64 x]) (by simp [results, Try.results143, go_sem, y0, y1]) rfl ⟨rfl, ?_⟩
    exact ((HB1.out.setCell (by simp) _).setCell (by simp) _).drew
end Go.Proofs.Ytbbjgcagkmlngab
/- A plan with only some steps, in an order: the program's. -/
namespace Go.Proofs.Ytbbjgcagkmlngab
open Go.RowKit

def nmOk (N : Nat) (t : List Int) (v : Int) : Bool := decide (v < N) || hasI t (v - N)
def nmI (N : Nat) (t : List Int) (v : Int) : Int := if v < N then v else if hasI t (v - N) then N + plc t (v - N) 0 else -1
def nmT (N m : Nat) (t : List Int) : List Int := (List.range (N + m)).map fun v : Nat => nmI N t (v : Int)
theorem nmT_length (N m : Nat) (t : List Int) : (nmT N m t).length = N + m := by simp [nmT]
theorem nmT_at (N m : Nat) (t : List Int) {v : Nat} (hv : v < N + m) : (nmT N m t)[v]'(by rw [nmT_length]; exact hv) = nmI N t (v : Int) := by simp [nmT]
theorem nm_bad {N : Nat} {t : List Int} {v : Int} (h : nmOk N t v = false) : nmI N t v = -1 := by
  unfold nmOk at h
  rw [Bool.or_eq_false_iff, decide_eq_false_iff_not] at h
  unfold nmI
  rw [if_neg h.1, if_neg (by rw [h.2]; decide)]
theorem nm_good {N : Nat} {l : List Int} {k : Nat} {v : Int} (h : nmOk N (l.take k) v = true) : nmI N (l.take k) v = numI N l v := by
  unfold nmOk at h
  unfold nmI numI
  by_cases hv : v < N
  · rw [if_pos hv, if_pos hv]
  · have h2 : hasI (l.take k) (v - N) = true := by
      rw [Bool.or_eq_true, decide_eq_true_eq] at h
      rcases h with h | h
      · exact absurd h hv
      · exact h
    rw [if_neg hv, if_neg hv, if_pos h2]
    have e := plc_app (l.take k) (l.drop k) (v - N) 0
    rw [List.take_append_drop, h2] at e
    rw [e]
    rfl
theorem nm_nonneg {N : Nat} {l : List Int} {v : Int} (h0 : 0 ≤ v) {k : Nat} (h : nmOk N (l.take k) v = true) : 0 ≤ numI N l v := by
  rw [← nm_good h]
  unfold nmOk at h
  unfold nmI
  by_cases hv : v < N
  · rw [if_pos hv]; exact h0
  · have h2 : hasI (l.take k) (v - N) = true := by
      rw [Bool.or_eq_true, decide_eq_true_eq] at h
      rcases h with h | h
      · exact absurd h hv
      · exact h
    rw [if_neg hv, if_pos h2]
    have := plc_nonneg h2 0
    omega
theorem nm_set {N m n k : Nat} {t : List Int} (ht : hasI t (n : Int) = false) (hk : t.length = k) : (nmT N m t).set (N + n) ((N : Int) + (k : Int)) = nmT N m (t ++ [(n : Int)]) := by
  apply List.ext_getElem?
  intro j
  by_cases hj : j < N + m
  · rw [show (nmT N m (t ++ [(n : Int)]))[j]? = some (nmI N (t ++ [(n : Int)]) (j : Int)) by simp [nmT, hj]]
    by_cases hjn : N + n = j
    · subst hjn
      rw [List.getElem?_set_self (by rw [nmT_length]; exact hj)]
      unfold nmI
      have e1 : ((N + n : Nat) : Int) - (N : Int) = (n : Int) := by omega
      have e2 : hasI (t ++ [(n : Int)]) (n : Int) = true := by simp [hasI]
      rw [if_neg (by omega), e1, if_pos e2, plc_app, ht]
      simp [plc, hk]
    · rw [List.getElem?_set_ne hjn, show (nmT N m t)[j]? = some (nmI N t (j : Int)) by simp [nmT, hj]]
      unfold nmI
      by_cases hjN : (j : Int) < (N : Int)
      · rw [if_pos hjN, if_pos hjN]
      · have e2 : hasI (t ++ [(n : Int)]) ((j : Int) - (N : Int)) = hasI t ((j : Int) - (N : Int)) := by
          unfold hasI
          rw [Bool.eq_iff_iff]
          simp
          omega
        rw [if_neg hjN, if_neg hjN, e2]
        by_cases hh : hasI t ((j : Int) - (N : Int)) = true
        · rw [if_pos hh, if_pos hh, plc_app, if_pos hh]
        · rw [if_neg hh, if_neg hh]
  · rw [List.getElem?_eq_none (by rw [List.length_set, nmT_length]; omega), List.getElem?_eq_none (by rw [nmT_length]; omega)]
theorem nm_start (N m : Nat) : ups N ++ List.replicate m (-1 : Int) = nmT N m [] := by
  apply List.ext_getElem?
  intro j
  by_cases hj : j < N + m
  · rw [show (nmT N m [])[j]? = some (nmI N [] (j : Int)) by simp [nmT, hj]]
    by_cases hjN : j < N
    · rw [List.getElem?_append_left (by rw [ups_length]; exact hjN)]
      have : (j : Int) < (N : Int) := by omega
      simp [ups, hjN, nmI, this]
    · rw [List.getElem?_append_right (by rw [ups_length]; omega), ups_length, List.getElem?_replicate, if_pos (by omega)]
      have : ¬ (j : Int) < (N : Int) := by omega
      simp [nmI, this, hasI]
  · rw [List.getElem?_eq_none (by simp [ups_length]; omega), List.getElem?_eq_none (by rw [nmT_length]; omega)]

def stepAt (p : Pl) (l : List Int) (i : Nat) : Int × Int := p.s.getD (l.getD i 0).toNat (0, 0)
def kOk (N : Nat) (p : Pl) (l : List Int) (k : Nat) : Bool := (List.range k).all fun i => nmOk N (l.take i) (stepAt p l i).1 && nmOk N (l.take i) (stepAt p l i).2
theorem stepAt_eq {p : Pl} {l : List Int} {k n : Nat} (hk : k < l.length) (hn : l[k] = (n : Int)) (hns : n < p.s.length) : stepAt p l k = p.s[n] := by
  unfold stepAt
  have : l.getD k 0 = (n : Int) := by simp [hk, hn]
  rw [this]
  simp [hns]
theorem kOk_succ (N : Nat) (p : Pl) (l : List Int) (k : Nat) : kOk N p l (k + 1) = (kOk N p l k && (nmOk N (l.take k) (stepAt p l k).1 && nmOk N (l.take k) (stepAt p l k).2)) := by
  unfold kOk
  rw [List.range_succ, List.all_append]
  simp
theorem kOk_false {N : Nat} {p : Pl} {l : List Int} {k : Nat} (hk : k < l.length) (h : (nmOk N (l.take k) (stepAt p l k).1 && nmOk N (l.take k) (stepAt p l k).2) = false) : kOk N p l l.length = false := by
  unfold kOk
  rw [List.all_eq_false]
  exact ⟨k, by simpa using hk, by rw [h]; decide⟩
def KeepPost (p : Pl) (N : Nat) (l : List Int) (w : World) (e : Ending) (w' : World) : Prop :=
  Below w.heap.size w w' ∧ (if kOk N p l l.length = true then ∃ B1 B2 d1 d2, e = .returned (.tuple #[.agg #[.int .i64 (N : Int), .slice B1 l.length d1, .slice B2 p.o.length d2], .bool true]) ∧ OwS w' w.heap.size (.slice B1 l.length d1) (keepS p N l l.length) ∧ OwI w' w.heap.size (.slice B2 p.o.length d2) (keepO p N l p.o.length)
    else e = .returned (.tuple #[.agg #[.int .i64 0, .slice none 0 0, .slice none 0 0], .bool false]))
theorem keepPost_none {p : Pl} {N : Nat} {l : List Int} {w w' : World} (h : kOk N p l l.length = false) (hb : Below w.heap.size w w') : KeepPost p N l w (.returned (.tuple #[.agg #[.int .i64 0, .slice none 0 0, .slice none 0 0], .bool false])) w' :=
  ⟨hb, by rw [if_neg (by rw [h]; decide)]⟩
theorem has_take_nodup {l : List Int} (hnd : l.Nodup) {k : Nat} (hk : k < l.length) : hasI (l.take k) l[k] = false := by
  unfold hasI
  simp only [List.contains_eq_mem, decide_eq_false_iff_not]
  intro hmem
  obtain ⟨i, hi, he⟩ := List.mem_iff_getElem.1 hmem
  rw [List.getElem_take] at he
  have hik : i < k := by simp at hi; omega
  have := (List.nodup_iff_pairwise_ne.1 hnd)
  rw [List.pairwise_iff_getElem] at this
  exact this i k (by omega) hk hik he

/-- A store into a row of another type. -/
theorem own_store_other {w : World} {B B' sz sz' n n' g o c' : Nat} {e e' : TypeId} {v : Value} {xs xs' : List Value} (h : w.ownsRow B e sz v n xs) (h' : w.ownsRow B' e' sz' (.slice (some ⟨g, 0, none⟩) n' c') n' xs') (hne : e' ≠ e) (u : Value) :
    (w.setCell ⟨g, o, none⟩ u).ownsRow B e sz v n xs := by
  rcases h'.2 with ⟨hv, _⟩ | ⟨g', cap, cur, hv, _, hg', _⟩
  · injection hv with hv _ _
    cases hv
  · injection hv with hv _ _
    injection hv with hv
    injection hv with hv _ _
    subst hv
    exact own_set h hg' hne u

end Go.Proofs.Ytbbjgcagkmlngab
/- Trimmed plans: used steps are kept with all that they need. -/
namespace Go.Proofs.Ytbbjgcagkmlngab
open Go.RowKit

theorem need_mono {N : Nat} {s : List (Int × Int)} {o : List Int} {x : Int} {j : Nat} : ∀ d, hasI (needI N s o j) x = true → hasI (needI N s o (j + d)) x = true := by
  intro d
  induction d with
  | zero => intro h; exact h
  | succ d ih =>
    intro h
    have ih := ih h
    show hasI (needI N s o (j + d + 1)) x = true
    simp only [needI]
    split
    · rw [hasI_two, ih]; rfl
    · exact ih
theorem usd_mem {N : Nat} {s : List (Int × Int)} {o : List Int} {x : Int} : x ∈ usd N s o ↔ ∃ i : Nat, i < s.length ∧ finI N s o i = true ∧ x = i := by
  unfold usd usT
  simp only [List.mem_map, List.mem_filter, List.mem_range'_1]
  constructor
  · rintro ⟨i, ⟨h1, h2⟩, rfl⟩
    exact ⟨i, by omega, h2, rfl⟩
  · rintro ⟨i, h1, h2, rfl⟩
    exact ⟨i, ⟨by omega, h2⟩, rfl⟩
theorem usd_sorted (N : Nat) (s : List (Int × Int)) (o : List Int) : (usd N s o).Pairwise (· < ·) := by
  unfold usd usT
  rw [List.pairwise_map]
  refine List.Pairwise.filter _ ?_
  refine List.Pairwise.imp ?_ (List.pairwise_lt_range' (s := s.length - s.length) (n := s.length) (step := 1))
  intro a b h
  omega
theorem usd_nodup (N : Nat) (s : List (Int × Int)) (o : List Int) : (usd N s o).Nodup := by
  rw [List.nodup_iff_pairwise_ne]
  exact List.Pairwise.imp (fun h => by omega) (usd_sorted N s o)
theorem take_of_lt {l : List Int} (hs : l.Pairwise (· < ·)) {k : Nat} (hk : k < l.length) {x : Int} (hx : x ∈ l) (hlt : x < l[k]) : hasI (l.take k) x = true := by
  unfold hasI
  simp only [List.contains_eq_mem, decide_eq_true_eq]
  obtain ⟨i, hi, rfl⟩ := List.mem_iff_getElem.1 hx
  rw [List.pairwise_iff_getElem] at hs
  have hik : i < k := by
    rcases Nat.lt_or_ge i k with h | h
    · exact h
    · exfalso
      rcases Nat.lt_or_eq_of_le h with h | h
      · have := hs k i hk hi h; omega
      · subst h; omega
  exact List.mem_iff_getElem.2 ⟨i, by simp; omega, by rw [List.getElem_take]⟩
theorem fin_of_has {N : Nat} {s : List (Int × Int)} {o : List Int} {x : Int} {j : Nat} (hj : j ≤ s.length) (h : hasI (needI N s o j) x = true) {i : Nat} (hx : x = (N : Int) + (i : Int)) : finI N s o i = true := by
  unfold finI
  rw [← hx]
  have := need_mono (s.length - j) h
  rwa [show j + (s.length - j) = s.length by omega] at this
theorem usd_cover {N : Nat} {s : List (Int × Int)} {o : List Int} (hout : ∀ x ∈ o, 0 ≤ x ∧ x < (N : Int) + s.length) : ∀ x ∈ o, nmOk N (usd N s o) x = true := by
  intro x hx
  obtain ⟨h1, h2⟩ := hout x hx
  unfold nmOk
  rw [Bool.or_eq_true, decide_eq_true_eq]
  by_cases hv : x < N
  · exact .inl hv
  · right
    have h0 : hasI (needI N s o 0) x = true := by
      unfold hasI
      simp [needI, hx]
    have hf := fin_of_has (by omega) h0 (i := (x - N).toNat) (by omega)
    unfold hasI
    simp only [List.contains_eq_mem, decide_eq_true_eq]
    exact usd_mem.2 ⟨(x - N).toNat, by omega, hf, by omega⟩
theorem usd_ok {N : Nat} {p : Pl} (hs : OkS N p.s) : kOk N p (usd N p.s p.o) (usd N p.s p.o).length = true := by
  unfold kOk
  rw [List.all_eq_true]
  intro k hk
  have hk : k < (usd N p.s p.o).length := by simpa using hk
  obtain ⟨n, hn, hf, he⟩ := usd_mem.1 (List.getElem_mem hk)
  obtain ⟨s1, s2, s3⟩ := hs n hn
  rw [stepAt_eq hk he hn]
  have hj : p.s.length - 1 - n < p.s.length := by omega
  have hat := fin_at (o := p.o) hs hj (i := n) (by omega)
  rw [hf] at hat
  have hneed := need_hit (o := p.o) hn (j := p.s.length - 1 - n) (by omega) hat.symm
  have one : ∀ v : Int, 0 ≤ v → v < N + n → hasI (needI N p.s p.o (p.s.length - 1 - n + 1)) v = true → nmOk N ((usd N p.s p.o).take k) v = true := by
    intro v h0 hv hh
    unfold nmOk
    rw [Bool.or_eq_true, decide_eq_true_eq]
    by_cases hvN : v < N
    · exact .inl hvN
    · right
      have hf2 := fin_of_has (by omega) hh (i := (v - N).toNat) (by omega)
      have hm : (v - N) ∈ usd N p.s p.o := usd_mem.2 ⟨(v - N).toNat, by omega, hf2, by omega⟩
      exact take_of_lt (usd_sorted _ _ _) hk hm (by rw [he]; omega)
  rw [Bool.and_eq_true]
  exact ⟨one _ s1 (by omega) (by rw [hneed, hasI_two]; simp), one _ (by omega) (by omega) (by rw [hneed, hasI_two]; simp)⟩
end Go.Proofs.Ytbbjgcagkmlngab
/- TrimPlan, of the model and of the program. -/
namespace Go.Proofs.Ytbbjgcagkmlngab
open Go.RowKit

def zeroP : Pl := ⟨0, [], []⟩
def trimR (p : Pl) : Pl := if good p then ⟨p.n, keepS p p.n.toNat (usd p.n.toNat p.s p.o) (usd p.n.toNat p.s p.o).length, keepO p p.n.toNat (usd p.n.toNat p.s p.o) p.o.length⟩ else zeroP
theorem trimR_good {p : Pl} {N : Nat} (h : good p = true) (hN : p.n = N) : trimR p = ⟨p.n, keepS p N (usd N p.s p.o) (usd N p.s p.o).length, keepO p N (usd N p.s p.o) p.o.length⟩ := by
  have : p.n.toNat = N := by omega
  unfold trimR
  rw [if_pos h, this]
theorem trimR_bad {p : Pl} (h : good p = false) : trimR p = zeroP := by
  unfold trimR
  rw [if_neg (by rw [h]; decide)]
theorem trimR_len (p : Pl) : (trimR p).s.length ≤ 1000 ∧ (trimR p).o.length ≤ 1000 := by
  cases h : good p with
  | false => rw [trimR_bad h]; simp [zeroP]
  | true =>
    obtain ⟨N, hN, _, _, h40, ho6, _⟩ := good_facts h
    rw [trimR_good h hN]
    have := us_len N p.s p.o p.s.length
    simp only
    rw [keepS_len p N _ (Nat.le_refl _), keepO_len p N _ (Nat.le_refl _)]
    unfold usd
    omega
theorem usd_in {N : Nat} {s : List (Int × Int)} {o : List Int} : ∀ x ∈ usd N s o, 0 ≤ x ∧ x < (s.length : Int) := by
  intro x hx
  obtain ⟨i, h1, _, rfl⟩ := usd_mem.1 hx
  omega
/-- Boxes of a plan that came in and of a plan that is answered. -/
theorem boxes2 {w w2 : World} {a b c : Value} {t : TypeId} (h : (w.alloc (.cells #[a, b, c] t)).alloc (.cells #[.int .i64 0, .slice none 0 0, .slice none 0 0] 44) = w2) :
    w2.heap[w.heap.size]? = some (.cells #[a, b, c] t (0, 0)) ∧ w2.heap[w.heap.size + 1]? = some (.cells #[.int .i64 0, .slice none 0 0, .slice none 0 0] 44 (0, 0)) ∧ w2.heap.size = w.heap.size + 2 ∧ Below w.heap.size w w2 := by
  subst h
  refine ⟨?_, ?_, by simp, ((Below.refl _ _).alloc (Nat.le_refl _) _).alloc (by simp) _⟩
  · rw [Below.heap_alloc _ _ _ (by simp)]; exact heap_alloc_new w _
  · have := heap_alloc_new (w.alloc (.cells #[a, b, c] t)) (.cells #[.int .i64 0, .slice none 0 0, .slice none 0 0] 44)
    simpa using this
theorem cells3 {w : World} {g : Nat} {a b c : Value} {t : TypeId} (h : w.heap[g]? = some (.cells #[a, b, c] t (0, 0))) :
    w.cell? ⟨g, 0, none⟩ = some a ∧ w.cell? ⟨g, 1, none⟩ = some b ∧ w.cell? ⟨g, 2, none⟩ = some c ∧ w.frozen? ⟨g, 0, none⟩ = false ∧ w.frozen? ⟨g, 1, none⟩ = false ∧ w.frozen? ⟨g, 2, none⟩ = false := by
  refine ⟨?_, ?_, ?_, frozen_of_row w _ 0 _ _ h, frozen_of_row w _ 1 _ _ h, frozen_of_row w _ 2 _ _ h⟩
  · rw [cell_of_row w _ 0 _ _ (0, 0) h]; rfl
  · rw [cell_of_row w _ 1 _ _ (0, 0) h]; rfl
  · rw [cell_of_row w _ 2 _ _ (0, 0) h]; rfl
theorem OwP.zero (w : World) (B : Nat) : OwP w B none none 0 0 zeroP := ⟨World.ownsRow_nil _ _ _ _, World.ownsRow_nil _ _ _ _⟩

theorem owP_of3 {w : World} {g B n m : Nat} {B1 B2 : Option Addr} {d1 d2 : Nat} {s : List (Int × Int)} {o : List Int} {z : Int} {t : TypeId} {cs : Array Value} (h : OwS w B (.slice B1 n d1) s) (h' : OwI w B (.slice B2 m d2) o) (hg : w.heap[g]? = some (.cells cs t (0, 0)))
    (ht : t ≠ 114) (ht' : t ≠ 3) (hn : s.length = n) (hm : o.length = m) (a b c : Value) :
    OwP (((w.setCell ⟨g, 0, none⟩ a).setCell ⟨g, 1, none⟩ b).setCell ⟨g, 2, none⟩ c) B B1 B2 d1 d2 ⟨z, s, o⟩ := by
  subst hn
  subst hm
  exact ⟨own_set3 h hg ht a b c, own_set3 h' hg ht' a b c⟩

end Go.Proofs.Ytbbjgcagkmlngab
/- Code of registers as data: rows of ops, reads, own rows; what is in the registers; its plan. -/
namespace Go.Proofs.Ytbbjgcagkmlngab
open Go.RowKit

/-- Code of registers: how many, the inputs, the ops (To, A, B), the outputs. -/
structure Rc where
  r : Int
  i : List Int
  ops : List (Int × Int × Int)
  o : List Int
def zeroRc : Rc := ⟨0, [], [], []⟩

/-- What is in a register, -1 for nothing. -/
def reg (l : List Int) (r : Int) : Int := l.getD r.toNat (-1)
/-- The m registers behind the first k inputs. -/
def rgI (m : Nat) (i : List Int) : Nat → List Int
  | 0 => List.replicate m (-1)
  | k + 1 => (rgI m i k).set (i.getD k 0).toNat (k : Int)
/-- The registers behind the first k ops. -/
def rgM (a : List Int) (n : Nat) (ops : List (Int × Int × Int)) : Nat → List Int
  | 0 => a
  | k + 1 => (rgM a n ops k).set (ops.getD k (0, 0, 0)).1.toNat (((n + k : Nat) : Int))
/-- The steps of the first k ops. -/
def rgS (a : List Int) (n : Nat) (ops : List (Int × Int × Int)) : Nat → List (Int × Int)
  | 0 => []
  | k + 1 => rgS a n ops k ++ [stI (reg (rgM a n ops k) (ops.getD k (0, 0, 0)).2.1) (reg (rgM a n ops k) (ops.getD k (0, 0, 0)).2.2)]
theorem rgI_len (m : Nat) (i : List Int) : ∀ k, (rgI m i k).length = m := by
  intro k
  induction k with
  | zero => simp [rgI]
  | succ k ih => simp [rgI, ih]
theorem rgM_len (a : List Int) (n : Nat) (ops : List (Int × Int × Int)) : ∀ k, (rgM a n ops k).length = a.length := by
  intro k
  induction k with
  | zero => rfl
  | succ k ih => simp [rgM, ih]
theorem rgS_len (a : List Int) (n : Nat) (ops : List (Int × Int × Int)) : ∀ k, (rgS a n ops k).length = k := by
  intro k
  induction k with
  | zero => rfl
  | succ k ih => simp [rgS, ih]
theorem set_takeI (l : List Int) (j m : Nat) (x : Int) : (l.set j x).take m = (l.take m).set j x := List.take_set ..
theorem rgI_take (m b : Nat) (i : List Int) (h : m ≤ b) : ∀ k, (rgI b i k).take m = rgI m i k := by
  intro k
  induction k with
  | zero => simp [rgI, h]
  | succ k ih => simp only [rgI]; rw [set_takeI, ih]
theorem rgM_take (a : List Int) (m n : Nat) (ops : List (Int × Int × Int)) : ∀ k, (rgM a n ops k).take m = rgM (a.take m) n ops k := by
  intro k
  induction k with
  | zero => rfl
  | succ k ih => simp only [rgM]; rw [set_takeI, ih]
theorem reg_take {l : List Int} {m : Nat} {r : Int} (h0 : 0 ≤ r) (h1 : r < m) : reg (l.take m) r = reg l r := by
  have : r.toNat < m := by omega
  unfold reg
  simp [List.getD_eq_getElem?_getD, this]
theorem reg_get {l : List Int} {r : Nat} (h : r < l.length) : reg l (r : Int) = l[r] := by
  unfold reg
  simp [List.getD_eq_getElem?_getD, h]
theorem reg_set {l : List Int} {j : Nat} {r x : Int} (hj : j < l.length) (h0 : 0 ≤ r) : reg (l.set j x) r = if (j : Int) = r then x else reg l r := by
  unfold reg
  rw [List.getD_eq_getElem?_getD, List.getElem?_set]
  by_cases h : (j : Int) = r
  · have : j = r.toNat := by omega
    subst this
    rw [if_pos h]
    simp [hj]
  · have : ¬ j = r.toNat := by omega
    rw [if_neg h, if_neg this]
    rfl
/-- A register is full as soon as one of the inputs is told to be in it. -/
theorem rgI_full {m : Nat} {i : List Int} (hi : ∀ x ∈ i, 0 ≤ x ∧ x < m) {r : Int} (h0 : 0 ≤ r) (_h1 : r < m) : ∀ k, k ≤ i.length → ((reg (rgI m i k) r = -1 ∧ r ∉ i.take k) ∨ (0 ≤ reg (rgI m i k) r ∧ reg (rgI m i k) r < k ∧ r ∈ i.take k)) := by
  intro k
  induction k with
  | zero =>
    intro _
    left
    refine ⟨?_, by simp⟩
    unfold reg rgI
    rw [List.getD_eq_getElem?_getD, List.getElem?_replicate]
    split <;> rfl
  | succ k ih =>
    intro hk
    have hlt : k < i.length := by omega
    have hg : i.getD k 0 = i[k] := by simp [hlt]
    obtain ⟨x0, x1⟩ := hi _ (List.getElem_mem hlt)
    simp only [rgI]
    rw [reg_set (by rw [rgI_len]; omega) h0, hg, List.take_succ_eq_append_getElem hlt, List.mem_append, List.mem_singleton]
    by_cases e : r = i[k]
    · right
      rw [if_pos (by omega)]
      exact ⟨by omega, by omega, .inr e⟩
    · rw [if_neg (by omega)]
      rcases ih (by omega) with ⟨h2, h3⟩ | ⟨h2, h3, h4⟩
      · left; exact ⟨h2, by simp [h3, e]⟩
      · right; exact ⟨h2, by omega, .inl h4⟩
theorem rgM_bd {a : List Int} {n : Nat} {ops : List (Int × Int × Int)} (ha : ∀ x ∈ a, -1 ≤ x ∧ x < n) : ∀ k, ∀ x ∈ rgM a n ops k, -1 ≤ x ∧ x < (n + k : Nat) := by
  intro k
  induction k with
  | zero => exact ha
  | succ k ih =>
    intro x hx
    rcases List.mem_or_eq_of_mem_set hx with h | h
    · have := ih x h; omega
    · omega
theorem rgI_bd {m : Nat} {i : List Int} : ∀ k, ∀ x ∈ rgI m i k, -1 ≤ x ∧ x < (k : Nat) := by
  intro k
  induction k with
  | zero =>
    intro x hx
    have := (List.mem_replicate.1 hx).2
    omega
  | succ k ih =>
    intro x hx
    rcases List.mem_or_eq_of_mem_set hx with h | h
    · have := ih x h; omega
    · omega
theorem reg_bd {l : List Int} {n : Int} (hn : 0 ≤ n) (h : ∀ x ∈ l, -1 ≤ x ∧ x < n) (r : Int) : -1 ≤ reg l r ∧ reg l r < n := by
  unfold reg
  rw [List.getD_eq_getElem?_getD]
  rcases Nat.lt_or_ge r.toNat l.length with h1 | h1
  · rw [List.getElem?_eq_getElem h1]
    exact h _ (List.getElem_mem h1)
  · rw [List.getElem?_eq_none h1]
    simp; omega

/-- All that is told is a register. -/
def opIn (r : Int) (x : Int × Int × Int) : Bool := inB x.1 0 (r - 1) && (inB x.2.1 0 (r - 1) && inB x.2.2 0 (r - 1))
def rcIn (c : Rc) : Bool := allB c.i 0 (c.r - 1) && (c.ops.all (opIn c.r) && allB c.o 0 (c.r - 1))
def nodI (l : List Int) : Bool := decide l.Nodup
/-- The registers of m at the end of all ops. -/
def rcA (m : Nat) (c : Rc) (k : Nat) : List Int := rgM (rgI m c.i c.i.length) c.i.length c.ops k
/-- The plan of code, whether it is one or not. -/
def rcP (c : Rc) : Pl := ⟨(c.i.length : Int), rgS (rgI 46 c.i c.i.length) c.i.length c.ops c.ops.length, c.o.map (reg (rcA 46 c c.ops.length))⟩
def rcB (c : Rc) : Bool := inB c.r 1 46 && (rcIn c && (nodI c.i && good (rcP c)))
def rcR (c : Rc) : Pl := if rcB c then rcP c else zeroP
theorem rcR_true {c : Rc} (h : rcB c = true) : rcR c = rcP c := by unfold rcR; rw [if_pos h]
theorem rcR_false {c : Rc} (h : rcB c = false) : rcR c = zeroP := by unfold rcR; rw [if_neg (by rw [h]; decide)]
theorem rcA_len (m : Nat) (c : Rc) (k : Nat) : (rcA m c k).length = m := by unfold rcA; rw [rgM_len, rgI_len]
theorem rcA_take {m : Nat} (c : Rc) (h : m ≤ 46) (k : Nat) : (rcA 46 c k).take m = rcA m c k := by unfold rcA; rw [rgM_take, rgI_take m 46 c.i h]
theorem rcA_reg {m : Nat} {c : Rc} (h : m ≤ 46) {k : Nat} {r : Int} (h0 : 0 ≤ r) (h1 : r < m) : reg (rcA m c k) r = reg (rcA 46 c k) r := by rw [← rcA_take c h, reg_take h0 h1]
/-- With fewer registers the steps are the same. -/
theorem rgS_less {m : Nat} {c : Rc} (h : m ≤ 46) (hops : ∀ x ∈ c.ops, opIn m x = true) : ∀ k, k ≤ c.ops.length → rgS (rgI m c.i c.i.length) c.i.length c.ops k = rgS (rgI 46 c.i c.i.length) c.i.length c.ops k := by
  intro k
  induction k with
  | zero => intro _; rfl
  | succ k ih =>
    intro hk
    have hlt : k < c.ops.length := by omega
    have hg : c.ops.getD k (0, 0, 0) = c.ops[k] := by simp [hlt]
    have ho := hops _ (List.getElem_mem hlt)
    unfold opIn inB at ho
    simp only [Bool.and_eq_true, decide_eq_true_eq] at ho
    obtain ⟨_, ⟨a0, a1⟩, b0, b1⟩ := ho
    simp only [rgS]
    rw [ih (by omega), hg]
    have e1 := rcA_reg (c := c) h (k := k) a0 (by omega)
    have e2 := rcA_reg (c := c) h (k := k) b0 (by omega)
    unfold rcA at e1 e2
    rw [e1, e2]
theorem rgS_get (a : List Int) (n : Nat) (ops : List (Int × Int × Int)) {j : Nat} : ∀ k, j < k → ∀ h : j < (rgS a n ops k).length, (rgS a n ops k)[j] = stI (reg (rgM a n ops j) (ops.getD j (0, 0, 0)).2.1) (reg (rgM a n ops j) (ops.getD j (0, 0, 0)).2.2) := by
  intro k
  induction k with
  | zero => intro h; omega
  | succ k ih =>
    intro h hl
    simp only [rgS]
    rcases Nat.lt_or_ge j k with h1 | h1
    · rw [List.getElem_append_left (by rw [rgS_len]; exact h1)]
      exact ih h1 _
    · have : j = k := by omega
      subst this
      rw [List.getElem_append_right (by rw [rgS_len]; omega)]
      simp
/-- Where an empty register is read, there is no plan. -/
theorem good_read {c : Rc} (h : good (rcP c) = true) {j : Nat} (hj : j < c.ops.length) : 0 ≤ reg (rcA 46 c j) (c.ops.getD j (0, 0, 0)).2.1 ∧ 0 ≤ reg (rcA 46 c j) (c.ops.getD j (0, 0, 0)).2.2 := by
  obtain ⟨N, _, _, _, _, _, hok, _⟩ := good_facts h
  have hl : j < (rcP c).s.length := by show j < (rgS _ _ _ _).length; rw [rgS_len]; exact hj
  have := hok j hl
  rw [show (rcP c).s[j] = _ from rgS_get _ _ _ _ hj hl] at this
  obtain ⟨h1, h2, _⟩ := this
  unfold stI leastI mostI at h1 h2
  simp only at h1 h2
  unfold rcA
  split at h1 <;> split at h2 <;> omega
theorem bad_read {c : Rc} {j : Nat} (hj : j < c.ops.length) (h : reg (rcA 46 c j) (c.ops.getD j (0, 0, 0)).2.1 < 0 ∨ reg (rcA 46 c j) (c.ops.getD j (0, 0, 0)).2.2 < 0) : rcB c = false := by
  cases hb : rcB c with
  | false => rfl
  | true =>
    unfold rcB at hb
    simp only [Bool.and_eq_true] at hb
    obtain ⟨h1, h2⟩ := good_read hb.2.2.2 hj
    omega
theorem bad_out {c : Rc} {j : Nat} (hj : j < c.o.length) (h : reg (rcA 46 c c.ops.length) c.o[j] < 0) : rcB c = false := by
  cases hb : rcB c with
  | false => rfl
  | true =>
    unfold rcB at hb
    simp only [Bool.and_eq_true] at hb
    obtain ⟨N, _, _, _, _, _, _, ho, _⟩ := good_facts hb.2.2.2
    have := ho _ (show reg (rcA 46 c c.ops.length) c.o[j] ∈ (rcP c).o from List.mem_map.2 ⟨_, List.getElem_mem hj, rfl⟩)
    omega
theorem rcB_facts {c : Rc} (h : rcB c = true) : ∃ R : Nat, c.r = R ∧ 1 ≤ R ∧ R ≤ 46 ∧ 1 ≤ c.i.length ∧ c.i.length ≤ 6 ∧ c.ops.length ≤ 40 ∧ c.o.length ≤ 6 ∧ c.i.Nodup ∧ (∀ x ∈ c.i, 0 ≤ x ∧ x < (R : Int)) ∧ (∀ x ∈ c.ops, opIn R x = true) ∧ (∀ x ∈ c.o, 0 ≤ x ∧ x < (R : Int)) ∧ good (rcP c) = true := by
  unfold rcB rcIn at h
  simp only [Bool.and_eq_true] at h
  obtain ⟨h1, ⟨h2, h3, h4⟩, h5, h6⟩ := h
  unfold inB at h1
  simp only [Bool.and_eq_true, decide_eq_true_eq] at h1
  obtain ⟨N, n0, n1, n2, n3, n4, _⟩ := good_facts h6
  have hs : (rcP c).s.length = c.ops.length := rgS_len _ _ _ _
  have ho : (rcP c).o.length = c.o.length := List.length_map _
  have hn : (rcP c).n = (c.i.length : Int) := rfl
  refine ⟨c.r.toNat, by omega, by omega, by omega, by omega, by omega, by omega, by omega, of_decide_eq_true h5, ?_, ?_, ?_, h6⟩
  · intro x hx
    have := List.all_eq_true.1 h2 x hx
    unfold inB at this
    simp only [Bool.and_eq_true, decide_eq_true_eq] at this
    omega
  · intro x hx
    have := List.all_eq_true.1 h3 x hx
    rw [show ((c.r.toNat : Nat) : Int) = c.r by omega]
    exact this
  · intro x hx
    have := List.all_eq_true.1 h4 x hx
    unfold inB at this
    simp only [Bool.and_eq_true, decide_eq_true_eq] at this
    omega
/-- What the model asks first. -/
def shpB (c : Rc) : Bool := inB c.r 1 46 && (inB (c.i.length : Int) 1 6 && (decide (c.ops.length ≤ 40) && (decide (c.o.length ≤ 6) && (nodI c.i && rcIn c))))
theorem rcB_shape {c : Rc} (h : rcB c = true) : shpB c = true := by
  obtain ⟨R, h0, h1, h2, h3, h4, h5, h6, _⟩ := rcB_facts h
  unfold rcB at h
  unfold shpB
  simp only [Bool.and_eq_true, decide_eq_true_eq] at h ⊢
  refine ⟨h.1, ?_, h5, h6, h.2.2.1, h.2.1⟩
  unfold inB
  simp only [Bool.and_eq_true, decide_eq_true_eq]
  omega
theorem shape_bad {c : Rc} (h : shpB c = false) : rcB c = false := by
  cases hb : rcB c with
  | false => rfl
  | true => rw [rcB_shape hb] at h; cases h
theorem shape_rcB {c : Rc} (h : shpB c = true) : rcB c = good (rcP c) := by
  unfold shpB at h
  unfold rcB
  simp only [Bool.and_eq_true] at h
  rw [h.1, h.2.2.2.2.1, h.2.2.2.2.2]
  rfl

/-- The cells of a list of ops. -/
def fl3 (s : List (Int × Int × Int)) : List Value := s.flatMap fun p => [I p.1, I p.2.1, I p.2.2]
theorem fl3_length (s : List (Int × Int × Int)) : (fl3 s).length = s.length * 3 := by
  induction s with
  | nil => rfl
  | cons p s ih => simp [fl3] at ih ⊢; omega
theorem fl3_at {s : List (Int × Int × Int)} {k : Nat} (hk : k < s.length) : (fl3 s)[k * 3]? = some (I s[k].1) ∧ (fl3 s)[k * 3 + 1]? = some (I s[k].2.1) ∧ (fl3 s)[k * 3 + 2]? = some (I s[k].2.2) := by
  induction s generalizing k with
  | nil => simp at hk
  | cons p s ih =>
    cases k with
    | zero => exact ⟨rfl, rfl, rfl⟩
    | succ k =>
      have := ih (k := k) (by simpa using hk)
      have e : fl3 (p :: s) = I p.1 :: I p.2.1 :: I p.2.2 :: fl3 s := rfl
      rw [e]
      refine ⟨?_, ?_, ?_⟩
      · rw [show (k + 1) * 3 = k * 3 + 1 + 1 + 1 from by omega]; simpa using this.1
      · rw [show (k + 1) * 3 + 1 = k * 3 + 1 + 1 + 1 + 1 from by omega]; simpa using this.2.1
      · rw [show (k + 1) * 3 + 2 = k * 3 + 2 + 1 + 1 + 1 from by omega]; simpa using this.2.2
theorem fl3_app (a b : List (Int × Int × Int)) : fl3 (a ++ b) = fl3 a ++ fl3 b := by simp [fl3]
theorem fl3_snoc (s : List (Int × Int × Int)) (p : Int × Int × Int) : fl3 (s ++ [p]) = fl3 s ++ [I p.1, I p.2.1, I p.2.2] := by simp [fl3]
/-- The three cells of op k. -/
theorem Rd.op {w : World} {B : Nat} {A : Option Addr} {s : List (Int × Int × Int)} (h : Rd w B 3 A s.length (fl3 s)) {k : Nat} (hk : k < s.length) :
    ∃ b off, A = some ⟨b, off, none⟩ ∧ b < B ∧ w.cell? ⟨b, off + k * 3, none⟩ = some (.int .i64 (s[k]'hk).1) ∧ w.cell? ⟨b, off + k * 3 + 1, none⟩ = some (.int .i64 (s[k]'hk).2.1) ∧ w.cell? ⟨b, off + k * 3 + 2, none⟩ = some (.int .i64 (s[k]'hk).2.2) := by
  obtain ⟨b, off, e, hb, hc⟩ := h.2 (by omega)
  refine ⟨b, off, e, hb, ?_, ?_, ?_⟩
  · rw [hc _ (by omega), (fl3_at hk).1]
  · rw [Nat.add_assoc, hc _ (by omega), (fl3_at hk).2.1]
  · rw [Nat.add_assoc, hc _ (by omega), (fl3_at hk).2.2]
/-- What the world must hold for the value of a code to read as c. -/
def RdC (w : World) (B : Nat) (A1 A2 A3 : Option Addr) (c : Rc) : Prop := Rd w B 1 A1 c.i.length (c.i.map I) ∧ Rd w B 3 A2 c.ops.length (fl3 c.ops) ∧ Rd w B 1 A3 c.o.length (c.o.map I)
section
variable {w w' : World} {B B' : Nat} {A1 A2 A3 : Option Addr} {c : Rc}
theorem RdC.below (h : RdC w B A1 A2 A3 c) (hb : Below B w w') : RdC w' B A1 A2 A3 c := ⟨h.1.below hb, h.2.1.below hb, h.2.2.below hb⟩
theorem RdC.below' {C : Nat} (h : RdC w B A1 A2 A3 c) (hb : Below C w w') (hC : B ≤ C) : RdC w' B A1 A2 A3 c := h.below (hb.mono hC)
theorem RdC.more (h : RdC w B A1 A2 A3 c) (hB : B ≤ B') : RdC w B' A1 A2 A3 c := ⟨h.1.more hB, h.2.1.more hB, h.2.2.more hB⟩
theorem RdC.drew (h : RdC w B A1 A2 A3 c) : RdC w.drew B A1 A2 A3 c := h
end
def OwO (w : World) (B : Nat) (v : Value) (s : List (Int × Int × Int)) : Prop := w.ownsRow B 88 3 v s.length (fl3 s)
/-- An own code: three own rows, the inputs and the outputs apart. -/
def OwC (w : World) (B : Nat) (A1 A2 A3 : Option Addr) (c1 c2 c3 : Nat) (c : Rc) : Prop :=
  OwI w B (.slice A1 c.i.length c1) c.i ∧ OwO w B (.slice A2 c.ops.length c2) c.ops ∧ OwI w B (.slice A3 c.o.length c3) c.o ∧ ∀ k, (Value.slice A1 c.i.length c1).ownBlock = some k → (Value.slice A3 c.o.length c3).ownBlock = some k → False
theorem OwO.nil (w : World) (B : Nat) : OwO w B (.slice none 0 0) [] := World.ownsRow_nil _ _ _ _
theorem OwC.zero (w : World) (B : Nat) : OwC w B none none none 0 0 0 zeroRc := ⟨OwI.nil _ _, OwO.nil _ _, OwI.nil _ _, fun k h _ => by cases h⟩
section
variable {w w' : World} {B B' : Nat} {A1 A2 A3 : Option Addr} {c1 c2 c3 : Nat} {c : Rc}
theorem OwC.rd (h : OwC w B A1 A2 A3 c1 c2 c3 c) : RdC w w.heap.size A1 A2 A3 c := ⟨Rd.of_own h.1, Rd.of_own h.2.1, Rd.of_own h.2.2.1⟩
theorem OwC.below (h : OwC w B A1 A2 A3 c1 c2 c3 c) (hb : Below w.heap.size w w') : OwC w' B A1 A2 A3 c1 c2 c3 c := ⟨own_below h.1 hb, own_below h.2.1 hb, own_below h.2.2.1 hb, h.2.2.2⟩
theorem OwC.base (h : OwC w B A1 A2 A3 c1 c2 c3 c) (hB : B' ≤ B) : OwC w B' A1 A2 A3 c1 c2 c3 c := ⟨own_base h.1 hB, own_base h.2.1 hB, own_base h.2.2.1 hB, h.2.2.2⟩
theorem own_capn {w : World} {B sz n c : Nat} {e : TypeId} {A : Option Addr} {xs : List Value} (h : w.ownsRow B e sz (.slice A n c) n xs) : n ≤ c := by
  obtain ⟨A', cc, e, hc⟩ := own_form h
  injection e with _ _ e
  omega
theorem OwC.cap (h : OwC w B A1 A2 A3 c1 c2 c3 c) : c.i.length ≤ c1 ∧ c.ops.length ≤ c2 ∧ c.o.length ≤ c3 := ⟨own_capn h.1, own_capn h.2.1, own_capn h.2.2.1⟩
end
theorem bx4r {w w1 : World} {a b c d : Value} {t : TypeId} (h : w.alloc (.cells #[a, b, c, d] t) = w1) :
    (w1.cell? ⟨w.heap.size, 0, none⟩ = some a ∧ w1.cell? ⟨w.heap.size, 1, none⟩ = some b ∧ w1.cell? ⟨w.heap.size, 2, none⟩ = some c ∧ w1.cell? ⟨w.heap.size, 3, none⟩ = some d) ∧ w1.heap.size = w.heap.size + 1 ∧ Below w.heap.size w w1 := by
  subst h
  refine ⟨⟨?_, ?_, ?_, ?_⟩, by simp, (Below.refl _ _).alloc (Nat.le_refl _) _⟩ <;> (rw [World.cell?_alloc_at _ _ _ _ rfl]; rfl)
end Go.Proofs.Ytbbjgcagkmlngab
/- The laws' own helpers: sizes and copies of codes of registers. -/
namespace Go.Proofs.Ytbbjgcagkmlngab
open Go.RowKit

def szRc (c : Rc) (left : Int) : Int :=
  if szR left c.i.length < 0 then -1 else if szR (szR left c.i.length) c.ops.length < 0 then -1 else szR (szR (szR left c.i.length) c.ops.length) c.o.length

set_option maxHeartbeats 400000 in
theorem szRegOpS_any (A : Option Addr) (n c : Nat) (left : Int) (w : World) (h0 : -1 ≤ left) (h1 : left ≤ 1048576) (hn : n ≤ 9223372036854775807) :
    Calls Try.prog 68 #[.slice A n c, .int .i64 left] w fun e w' => e = .returned (.int .i64 (szR left n)) ∧ w = w' := by
  by_cases h : left - n < 0
  · go_enter Try.func68, Try.ntmps68
    go_wp2
    go_ret
    exact ⟨ret_int (by simp [szR, h]), rfl⟩
  · go_enter Try.func68, Try.ntmps68
    go_wp2
    go_ret
    exact ⟨ret_int (by simp [szR]; omega), rfl⟩

set_option maxRecDepth 100000 in
set_option maxHeartbeats 2000000 in
theorem szRegCode_any (A1 A2 A3 : Option Addr) (c1 c2 c3 : Nat) (c : Rc) (left : Int) (w : World) (h0 : -1 ≤ left) (h1 : left ≤ 1048576) (hn1 : c.i.length ≤ 9223372036854775807) (hn2 : c.ops.length ≤ 9223372036854775807) (hn3 : c.o.length ≤ 9223372036854775807) :
    Calls Try.prog 15 #[.agg #[.int .i64 c.r, .slice A1 c.i.length c1, .slice A2 c.ops.length c2, .slice A3 c.o.length c3], .int .i64 left] w fun e w' => e = .returned (.int .i64 (szRc c left)) ∧ Below w.heap.size w w' := by
  obtain ⟨b1, b2⟩ := szR_bd (n := c.i.length) h0 h1
  obtain ⟨x, hx⟩ : ∃ x, szR left c.i.length = x := ⟨_, rfl⟩
  rw [hx] at b1 b2
  obtain ⟨b3, b4⟩ := szR_bd (n := c.ops.length) b1 b2
  obtain ⟨y, hy⟩ : ∃ y, szR x c.ops.length = y := ⟨_, rfl⟩
  rw [hy] at b3 b4
  obtain ⟨b5, b6⟩ := szR_bd (n := c.o.length) b3 b4
  obtain ⟨z, hz⟩ : ∃ z, szR y c.o.length = z := ⟨_, rfl⟩
  rw [hz] at b5 b6
  have hs1 := fun W => szIntS_any A1 c.i.length c1 left W h0 h1 hn1
  have hs2 := fun W => szRegOpS_any A2 c.ops.length c2 x W b1 b2 hn2
  have hs3 := fun W => szIntS_any A3 c.o.length c3 y W b3 b4 hn3
  rw [hx] at hs1
  rw [hy] at hs2
  rw [hz] at hs3
  have HX := Lib.hid (show szRc c left = if x < 0 then -1 else if y < 0 then -1 else z by unfold szRc; rw [hx, hy, hz])
  have HS1 := Lib.hid hs1
  have HS2 := Lib.hid hs2
  have HS3 := Lib.hid hs3
  clear hx hy hz hs1 hs2 hs3
  by_cases h : x < 0
  · go_enter Try.func15, Try.ntmps15
    go_wp2_with fail
    go_at_call 67
    refine (HS1.out _).mono ?_
    rintro e w' ⟨rfl, rfl⟩
    go_wp2
    go_ret
    exact ⟨ret_int (by rw [HX.out, if_pos h]), (Below.refl _ _).alloc (Nat.le_refl _) _⟩
  · by_cases h2 : y < 0
    · have HY := Lib.hid (show szRc c left = -1 by rw [HX.out, if_neg h, if_pos h2])
      go_enter Try.func15, Try.ntmps15
      go_wp2_with fail
      go_at_call 67
      refine (HS1.out _).mono ?_
      rintro e w' ⟨rfl, rfl⟩
      go_wp2_with fail
      go_at_call 68
      refine (HS2.out _).mono ?_
      rintro e w' ⟨rfl, rfl⟩
      go_wp2
      go_ret
      exact ⟨ret_int HY.out.symm, (Below.refl _ _).alloc (Nat.le_refl _) _⟩
    · by_cases h3 : z < 0
      · have HY := Lib.hid (show szRc c left = -1 by rw [HX.out, if_neg h, if_neg h2]; omega)
        go_enter Try.func15, Try.ntmps15
        go_wp2_with fail
        go_at_call 67
        refine (HS1.out _).mono ?_
        rintro e w' ⟨rfl, rfl⟩
        go_wp2_with fail
        go_at_call 68
        refine (HS2.out _).mono ?_
        rintro e w' ⟨rfl, rfl⟩
        go_wp2_with fail
        go_at_call 67
        refine (HS3.out _).mono ?_
        rintro e w' ⟨rfl, rfl⟩
        go_wp2
        go_ret
        exact ⟨ret_int HY.out.symm, (Below.refl _ _).alloc (Nat.le_refl _) _⟩
      · have HY := Lib.hid (show szRc c left = z by rw [HX.out, if_neg h, if_neg h2])
        go_enter Try.func15, Try.ntmps15
        go_wp2_with fail
        go_at_call 67
        refine (HS1.out _).mono ?_
        rintro e w' ⟨rfl, rfl⟩
        go_wp2_with fail
        go_at_call 68
        refine (HS2.out _).mono ?_
        rintro e w' ⟨rfl, rfl⟩
        go_wp2_with fail
        go_at_call 67
        refine (HS3.out _).mono ?_
        rintro e w' ⟨rfl, rfl⟩
        go_wp2
        go_ret
        exact ⟨ret_int HY.out.symm, (Below.refl _ _).alloc (Nat.le_refl _) _⟩
theorem szPl_ok2 {p : Pl} {left : Int} (h1 : left ≤ 1048576) (h : ¬ szPl p left < 0) : p.s.length ≤ 1048576 ∧ p.o.length ≤ 1048576 := by
  unfold szPl szR at h
  by_cases a1 : left - p.s.length < 0
  · simp [a1] at h
  · simp only [a1, if_false] at h
    by_cases a2 : left - p.s.length - p.o.length < 0
    · simp [a2] at h
    · omega
theorem szRc_bd {c : Rc} {left : Int} (h0 : -1 ≤ left) (h1 : left ≤ 1048576) : -1 ≤ szRc c left ∧ szRc c left ≤ 1048576 := by
  obtain ⟨b1, b2⟩ := szR_bd (n := c.i.length) h0 h1
  obtain ⟨b3, b4⟩ := szR_bd (n := c.ops.length) b1 b2
  obtain ⟨b5, b6⟩ := szR_bd (n := c.o.length) b3 b4
  unfold szRc
  split
  · omega
  · split <;> omega
theorem szRc_ok {c : Rc} {left : Int} (h1 : left ≤ 1048576) (h : ¬ szRc c left < 0) : c.i.length ≤ 1048576 ∧ c.ops.length ≤ 1048576 ∧ c.o.length ≤ 1048576 := by
  unfold szRc szR at h
  by_cases a1 : left - c.i.length < 0
  · simp [a1] at h
  · simp only [a1, if_false] at h
    by_cases a2 : left - c.i.length - c.ops.length < 0
    · simp [a2] at h
    · simp only [a2, if_false] at h
      by_cases a3 : left - c.i.length - c.ops.length - c.o.length < 0
      · simp [a3] at h
      · omega

set_option maxHeartbeats 1000000 in
theorem toRegOp_any (a b c : Int) (w : World) : Calls Try.prog 126 #[.agg #[.int .i64 a, .int .i64 b, .int .i64 c]] w fun e w' => e = .returned (.agg #[.int .i64 a, .int .i64 b, .int .i64 c]) ∧ Below w.heap.size w w' := by
  go_enter Try.func126, Try.ntmps126
  go_wp2
  refine bodyPost_ret (v := .agg #[.int .i64 a, .int .i64 b, .int .i64 c]) (by simp [results, Try.results126, go_sem]) rfl ⟨rfl, ?_⟩
  exact (((Below.refl _ _).alloc (Nat.le_refl _) _).alloc (by simp) _).alloc (by simp; omega) _
theorem fill_op (s : List (Int × Int × Int)) (k : Nat) (hk : k < s.length) : (((fl3 (s.take k) ++ List.replicate ((s.length - k) * 3) (I 0)).set (k * 3) (I s[k].1)).set (k * 3 + 1) (I s[k].2.1)).set (k * 3 + 2) (I s[k].2.2) = fl3 (s.take (k + 1)) ++ List.replicate ((s.length - (k + 1)) * 3) (I 0) := by
  have hl : (fl3 (s.take k)).length = k * 3 := by rw [fl3_length]; simp; omega
  rw [List.set_append_right _ _ (by omega), show (s.length - k) * 3 = (s.length - (k + 1)) * 3 + 1 + 1 + 1 from by omega, List.replicate_succ, List.replicate_succ, List.replicate_succ, hl, Nat.sub_self, List.set_cons_zero,
    List.set_append_right _ _ (by omega), hl, show k * 3 + 1 - k * 3 = 1 from by omega, List.set_cons_succ, List.set_cons_zero,
    List.set_append_right _ _ (by omega), hl, show k * 3 + 2 - k * 3 = 2 from by omega, List.set_cons_succ, List.set_cons_succ, List.set_cons_zero, List.take_succ_eq_append_getElem hk, fl3_snoc]
  simp
theorem made3 (v : Value) (n : Nat) : (madeCells #[v, v, v] (n * 3)).toList = List.replicate (n * 3) v := by
  apply List.ext_getElem?
  intro j
  by_cases hj : j < n * 3
  · have h6 : j % 3 = 0 ∨ j % 3 = 1 ∨ j % 3 = 2 := by omega
    rcases h6 with h | h | h <;> simp [madeCells, hj, h]
  · simp [madeCells, hj]
theorem info_regop : (Try.prog.info? 88).map (fun i => (i.zero, i.size, i.bytes)) = some (some (.agg #[.int .i64 0, .int .i64 0, .int .i64 0]), 3, 24) := by kernel_rfl

set_option maxRecDepth 100000 in
set_option maxHeartbeats 2000000 in
theorem toRegOpS_any (B : Nat) (A : Option Addr) (c : Nat) (s : List (Int × Int × Int)) (w : World) (hm : s.length ≤ 1048576) (hB : B ≤ w.heap.size) (hr : Rd w B 3 A s.length (fl3 s)) :
    Calls Try.prog 74 #[.slice A s.length c] w fun e w' => ∃ A' c', e = .returned (.slice A' s.length c') ∧ OwO w' w.heap.size (.slice A' s.length c') s ∧ Below w.heap.size w w' := by
  have H := Lib.hid hr
  clear hr
  obtain ⟨i0, hi, hz0, hz1, hz2⟩ := info_parts info_regop
  have hmk : ∀ W : World, (Instr.makeSlice 27 (.int .i64 (s.length : Int)) (.int .i64 (s.length : Int))).run Try.prog W = .ok (.slice (some ⟨W.heap.size, 0, none⟩) s.length s.length) (W.alloc (.cells (madeCells #[.int .i64 0, .int .i64 0, .int .i64 0] (s.length * 3)) 88)) := fun W => by
    have hr := run_make (P := Try.prog) W 27 88 i0 _ Try.underlying27 hi hz0 .i64 .i64 s.length s.length (by omega) (Int.le_refl _) (by rw [hz2]; omega) (by omega)
    simp only [Int.toNat_natCast] at hr
    rw [hz1] at hr
    exact hr
  have hmade : (w.alloc (.cells (madeCells #[.int .i64 0, .int .i64 0, .int .i64 0] (s.length * 3)) 88)).ownsRow w.heap.size 88 3 (.slice (some ⟨w.heap.size, 0, none⟩) s.length s.length) s.length (fl3 (s.take 0) ++ List.replicate ((s.length - 0) * 3) (I 0)) := by
    have h := World.ownsRow_lit (base := w.heap.size) (e := 88) (size := 3) w (madeCells #[Value.int .i64 0, .int .i64 0, .int .i64 0] (s.length * 3)) s.length (Nat.le_refl _) (by unfold maxLen; omega) (by simp [size_madeCells])
    rw [made3] at h
    simpa [fl3] using h
  have HM := Lib.hid hmade
  clear hmade hi hz0 hz1 hz2
  go_enter Try.func74, Try.ntmps74
  go_wp2
  clear hmk
  go_loopw [4] (fun i wr => ∃ k : Nat, k ≤ s.length ∧ i = .int .i64 k ∧ wr.ownsRow w.heap.size 88 3 (.slice (some ⟨w.heap.size, 0, none⟩) s.length s.length) s.length (fl3 (s.take k) ++ List.replicate ((s.length - k) * 3) (I 0)) ∧ Below w.heap.size w wr) (fun i _ => s.length - (intOf i).toNat)
  case atStart => exact ⟨0, by omega, rfl, HM.out, (Below.refl _ _).alloc (Nat.le_refl _) _⟩
  case round =>
    obtain ⟨k, hk, rfl, hown, hbel⟩ := hrel
    have hsz : w.heap.size ≤ wr.heap.size := hbel.size
    by_cases hlt : k < s.length
    · obtain ⟨b, off, rfl, hb, hc1, hc2, hc3⟩ := (H.out.below' hbel (by omega)).op hlt
      have BEL := Lib.hid hbel
      have OWN := Lib.hid hown
      clear hown hbel
      go_wp2_with fail
      go_at_call 126
      refine (toRegOp_any _ _ _ _).mono ?_
      rintro e w5 ⟨rfl, hb5⟩
      have hown5 := own_below OWN.out hb5
      have hl : (fl3 (s.take k)).length = k * 3 := by rw [fl3_length]; simp; omega
      have d0 : w5.cell? ⟨w.heap.size, k * 3, none⟩ = some (I 0) := by
        rw [hown5.cellAt _ (by omega)]
        exact rep_at (by omega) (by omega)
      have d1 : w5.cell? ⟨w.heap.size, k * 3 + 1, none⟩ = some (I 0) := by
        rw [hown5.cellAt _ (by omega)]
        exact rep_at (by omega) (by omega)
      have d2 : w5.cell? ⟨w.heap.size, k * 3 + 2, none⟩ = some (I 0) := by
        rw [hown5.cellAt _ (by omega)]
        exact rep_at (by omega) (by omega)
      have f0 : w5.frozen? ⟨w.heap.size, k * 3, none⟩ = false := hown5.frozenAt _
      have f1 : w5.frozen? ⟨w.heap.size, k * 3 + 1, none⟩ = false := hown5.frozenAt _
      have f2 : w5.frozen? ⟨w.heap.size, k * 3 + 2, none⟩ = false := hown5.frozenAt _
      have HB5 := Lib.hid hb5
      have OWN5 := Lib.hid hown5
      clear hb5 hown5 hl
      go_wp2
      go_roundw
      case rel =>
        refine ⟨k + 1, by omega, by go_num, ?_, ((((BEL.out.trans (HB5.out.mono hsz)).setCell (Nat.le_refl _) _).setCell (Nat.le_refl _) _).setCell (Nat.le_refl _) _)⟩
        have h := (((OWN5.out.stored (k * 3) (I s[k].1)).1.stored (k * 3 + 1) (I s[k].2.1)).1.stored (k * 3 + 2) (I s[k].2.2)).1
        rw [fill_op s k hlt] at h
        exact h
      case measure => simp [intOf]; omega
    · have hk' : k = s.length := by omega
      have BEL := Lib.hid hbel
      have OWN := Lib.hid hown
      subst hk'
      clear hown hbel
      go_wp2
      go_ret
      refine ⟨_, _, rfl, ?_, BEL.out⟩
      have h := OWN.out
      rw [List.take_of_length_le (Nat.le_refl _)] at h
      simpa [OwO] using h

/-- Stores into one block, and then four into another: own rows of other types stay. -/
theorem own_set5 {w : World} {B sz n g h o : Nat} {e t : TypeId} {v u a b c d : Value} {xs : List Value} {cs ds : Array Value} (hr : w.ownsRow B e sz v n xs) (hne : g ≠ h) (ht : t ≠ e) (hg : w.heap[g]? = some (.cells cs t (0, 0))) (hh : w.heap[h]? = some (.cells ds t (0, 0))) :
    (((((w.setCell ⟨g, o, none⟩ u).setCell ⟨h, 0, none⟩ a).setCell ⟨h, 1, none⟩ b).setCell ⟨h, 2, none⟩ c).setCell ⟨h, 3, none⟩ d).ownsRow B e sz v n xs := by
  have h1 := own_set (o := o) hr hg ht u
  have k1 : (w.setCell ⟨g, o, none⟩ u).heap[h]? = _ := (Below.heap_setCell _ _ _ _ (by simpa using hne.symm)).trans hh
  have h2 := own_set (o := 0) h1 k1 ht a
  have k2 := heap_setCell_same _ _ 0 _ _ a k1
  have h3 := own_set (o := 1) h2 k2 ht b
  have k3 := heap_setCell_same _ _ 1 _ _ b k2
  have h4 := own_set (o := 2) h3 k3 ht c
  have k4 := heap_setCell_same _ _ 2 _ _ c k3
  exact own_set (o := 3) h4 k4 ht d

set_option maxRecDepth 100000 in
set_option maxHeartbeats 4000000 in
theorem toRegCode_any (B : Nat) (A1 A2 A3 : Option Addr) (c1 c2 c3 : Nat) (c : Rc) (w : World) (hm1 : c.i.length ≤ 1048576) (hm2 : c.ops.length ≤ 1048576) (hm3 : c.o.length ≤ 1048576) (hB : B ≤ w.heap.size) (hr : RdC w B A1 A2 A3 c) :
    Calls Try.prog 17 #[.agg #[.int .i64 c.r, .slice A1 c.i.length c1, .slice A2 c.ops.length c2, .slice A3 c.o.length c3]] w fun e w' =>
      ∃ B1 B2 B3 d1 d2 d3, e = .returned (.agg #[.int .i64 c.r, .slice B1 c.i.length d1, .slice B2 c.ops.length d2, .slice B3 c.o.length d3]) ∧ OwC w' w.heap.size B1 B2 B3 d1 d2 d3 c ∧ Below w.heap.size w w' := by
  have H := Lib.hid hr
  clear hr
  go_enter Try.func17, Try.ntmps17
  go_wp2_with fail
  go_at_call 73
  generalize hw3 : World.alloc (World.alloc (World.alloc w _) _) _ = w3
  have q0 : w3.heap[w.heap.size]? = some (.cells #[.int .i64 c.r, .slice A1 c.i.length c1, .slice A2 c.ops.length c2, .slice A3 c.o.length c3] 25 (0, 0)) := by
    rw [← hw3, Below.heap_alloc _ _ _ (by simp; omega), Below.heap_alloc _ _ _ (by simp)]; exact heap_alloc_new w _
  have q1 : w3.heap[w.heap.size + 1]? = some (.cells #[.int .i64 0, .slice none 0 0, .slice none 0 0, .slice none 0 0] 29 (0, 0)) := by
    rw [← hw3, Below.heap_alloc _ _ _ (by simp)]
    have := heap_alloc_new (w.alloc (.cells #[.int .i64 c.r, .slice A1 c.i.length c1, .slice A2 c.ops.length c2, .slice A3 c.o.length c3] 25)) (.cells #[.int .i64 0, .slice none 0 0, .slice none 0 0, .slice none 0 0] 29)
    simpa using this
  have q2 : w3.heap[w.heap.size + 2]? = some (.cells #[.int .i64 c.r, .slice none 0 0, .slice none 0 0, .slice none 0 0] 29 (0, 0)) := by
    rw [← hw3]
    have := heap_alloc_new ((w.alloc (.cells #[.int .i64 c.r, .slice A1 c.i.length c1, .slice A2 c.ops.length c2, .slice A3 c.o.length c3] 25)).alloc (.cells #[.int .i64 0, .slice none 0 0, .slice none 0 0, .slice none 0 0] 29)) (.cells #[.int .i64 c.r, .slice none 0 0, .slice none 0 0, .slice none 0 0] 29)
    simpa using this
  have hs3 : w3.heap.size = w.heap.size + 3 := by rw [← hw3]; simp
  have hb3 : Below w.heap.size w w3 := by rw [← hw3]; exact (((Below.refl _ _).alloc (Nat.le_refl _) _).alloc (by simp) _).alloc (by simp; omega) _
  clear hw3
  refine (toIntS_any B A1 c1 c.i w3 hm1 (by omega) (H.out.below' hb3 hB).1).mono ?_
  rintro e w5 ⟨B1, d1, rfl, hown5, hb5⟩
  have r0 := (hb5.block _ (by omega)).trans q0
  have r1 := (hb5.block _ (by omega)).trans q1
  have r2 := (hb5.block _ (by omega)).trans q2
  have a0 : w5.cell? ⟨w.heap.size, 2, none⟩ = some (.slice A2 c.ops.length c2) := by rw [cell_of_row w5 _ 2 _ _ (0, 0) r0]; rfl
  have a1 : w5.cell? ⟨w.heap.size + 2, 1, none⟩ = some (.slice none 0 0) := by rw [cell_of_row w5 _ 1 _ _ (0, 0) r2]; rfl
  have a2 : w5.frozen? ⟨w.heap.size + 2, 1, none⟩ = false := frozen_of_row w5 _ 1 _ _ r2
  have R0 := Lib.hid r0
  have R1 := Lib.hid r1
  have R2 := Lib.hid r2
  have OWN5 := Lib.hid (show OwI w5 (w.heap.size + 3) (.slice B1 c.i.length d1) c.i from own_base hown5 (by omega))
  have HB5 := Lib.hid (hb3.trans (hb5.mono (by omega)))
  have HZ5 := Lib.hid (show w.heap.size + 3 ≤ w5.heap.size by have := hb5.size; omega)
  clear q0 q1 q2 r0 r1 r2 hs3 hb3 hb5 hown5
  go_wp2_with fail
  go_at_call 74
  generalize hw6 : World.setCell w5 _ _ = w6
  have t0 : w6.heap[w.heap.size]? = some (.cells #[.int .i64 c.r, .slice A1 c.i.length c1, .slice A2 c.ops.length c2, .slice A3 c.o.length c3] 25 (0, 0)) := by
    rw [← hw6, Below.heap_setCell _ _ _ _ (by simp; omega)]; exact R0.out
  have t1 : w6.heap[w.heap.size + 1]? = some (.cells #[.int .i64 0, .slice none 0 0, .slice none 0 0, .slice none 0 0] 29 (0, 0)) := by
    rw [← hw6, Below.heap_setCell _ _ _ _ (by simp)]; exact R1.out
  have t2 : w6.heap[w.heap.size + 2]? = some (.cells #[.int .i64 c.r, .slice B1 c.i.length d1, .slice none 0 0, .slice none 0 0] 29 (0, 0)) := by
    rw [← hw6, heap_setCell_same w5 _ 1 _ _ _ R2.out]; rfl
  have ho6 : OwI w6 (w.heap.size + 3) (.slice B1 c.i.length d1) c.i := by
    rw [← hw6]; exact own_set OWN5.out R2.out (by decide) _
  have hb6 : Below w.heap.size w w6 := by rw [← hw6]; exact HB5.out.setCell (by simp; omega) _
  have hz6 : w.heap.size + 3 ≤ w6.heap.size := by have := HZ5.out; rw [← hw6]; simpa using this
  clear hw6 a0 a1 a2 R0 R1 R2 OWN5 HB5 HZ5
  refine (toRegOpS_any B A2 c2 c.ops w6 hm2 (by omega) (H.out.below' hb6 hB).2.1).mono ?_
  rintro e w7 ⟨B2, d2, rfl, hown7, hb7⟩
  have r0 := (hb7.block _ (by omega)).trans t0
  have r1 := (hb7.block _ (by omega)).trans t1
  have r2 := (hb7.block _ (by omega)).trans t2
  have a0 : w7.cell? ⟨w.heap.size, 3, none⟩ = some (.slice A3 c.o.length c3) := by rw [cell_of_row w7 _ 3 _ _ (0, 0) r0]; rfl
  have a1 : w7.cell? ⟨w.heap.size + 2, 2, none⟩ = some (.slice none 0 0) := by rw [cell_of_row w7 _ 2 _ _ (0, 0) r2]; rfl
  have a2 : w7.frozen? ⟨w.heap.size + 2, 2, none⟩ = false := frozen_of_row w7 _ 2 _ _ r2
  have R1 := Lib.hid r1
  have R2 := Lib.hid r2
  have OI7 := Lib.hid (own_below ho6 hb7)
  have OO7 := Lib.hid (show OwO w7 (w.heap.size + 3) (.slice B2 c.ops.length d2) c.ops from own_base hown7 hz6)
  have HB7 := Lib.hid (hb6.trans (hb7.mono (by omega)))
  have HZ7 := Lib.hid (show w.heap.size + 3 ≤ w7.heap.size by have := hb7.size; omega)
  clear t0 t1 t2 r0 r1 r2 ho6 hb6 hz6 hown7 hb7
  go_wp2_with fail
  go_at_call 73
  generalize hw8 : World.setCell w7 _ _ = w8
  have t1 : w8.heap[w.heap.size + 1]? = some (.cells #[.int .i64 0, .slice none 0 0, .slice none 0 0, .slice none 0 0] 29 (0, 0)) := by
    rw [← hw8, Below.heap_setCell _ _ _ _ (by simp)]; exact R1.out
  have t2 : w8.heap[w.heap.size + 2]? = some (.cells #[.int .i64 c.r, .slice B1 c.i.length d1, .slice B2 c.ops.length d2, .slice none 0 0] 29 (0, 0)) := by
    rw [← hw8, heap_setCell_same w7 _ 2 _ _ _ R2.out]; rfl
  have hi8 : OwI w8 (w.heap.size + 3) (.slice B1 c.i.length d1) c.i := by
    rw [← hw8]; exact own_set OI7.out R2.out (by decide) _
  have ho8 : OwO w8 (w.heap.size + 3) (.slice B2 c.ops.length d2) c.ops := by
    rw [← hw8]; exact own_set OO7.out R2.out (by decide) _
  have hb8 : Below w.heap.size w w8 := by rw [← hw8]; exact HB7.out.setCell (by simp; omega) _
  have hz8 : w.heap.size + 3 ≤ w8.heap.size := by have := HZ7.out; rw [← hw8]; simpa using this
  clear hw8 a0 a1 a2 R1 R2 OI7 OO7 HB7 HZ7
  refine (toIntS_any B A3 c3 c.o w8 hm3 (by omega) (H.out.below' hb8 hB).2.2).mono ?_
  rintro e w9 ⟨B3, d3, rfl, hown9, hb9⟩
  have r1 := (hb9.block _ (by omega)).trans t1
  have r2 := (hb9.block _ (by omega)).trans t2
  have apt := Lib.hid (show ∀ k, (Value.slice B1 c.i.length d1).ownBlock = some k → (Value.slice B3 c.o.length d3).ownBlock = some k → False from fun k h1 h2 => by
    have g1 := (own_block hi8 k h1).2
    have g2 := (own_block hown9 k h2).1
    omega)
  have hi9 := own_below hi8 hb9
  have ho9 := own_below ho8 hb9
  have a0 : w9.cell? ⟨w.heap.size + 2, 0, none⟩ = some (.int .i64 c.r) := by rw [cell_of_row w9 _ 0 _ _ (0, 0) r2]; rfl
  have a1 : w9.cell? ⟨w.heap.size + 2, 1, none⟩ = some (.slice B1 c.i.length d1) := by rw [cell_of_row w9 _ 1 _ _ (0, 0) r2]; rfl
  have a2 : w9.cell? ⟨w.heap.size + 2, 2, none⟩ = some (.slice B2 c.ops.length d2) := by rw [cell_of_row w9 _ 2 _ _ (0, 0) r2]; rfl
  have a4 : w9.cell? ⟨w.heap.size + 2, 3, none⟩ = some (.slice none 0 0) := by rw [cell_of_row w9 _ 3 _ _ (0, 0) r2]; rfl
  have a3 : w9.frozen? ⟨w.heap.size + 2, 3, none⟩ = false := frozen_of_row w9 _ 3 _ _ r2
  have b0 : w9.cell? ⟨w.heap.size + 1, 0, none⟩ = some (.int .i64 0) := by rw [cell_of_row w9 _ 0 _ _ (0, 0) r1]; rfl
  have b1 : w9.cell? ⟨w.heap.size + 1, 1, none⟩ = some (.slice none 0 0) := by rw [cell_of_row w9 _ 1 _ _ (0, 0) r1]; rfl
  have b2 : w9.cell? ⟨w.heap.size + 1, 2, none⟩ = some (.slice none 0 0) := by rw [cell_of_row w9 _ 2 _ _ (0, 0) r1]; rfl
  have b3 : w9.cell? ⟨w.heap.size + 1, 3, none⟩ = some (.slice none 0 0) := by rw [cell_of_row w9 _ 3 _ _ (0, 0) r1]; rfl
  have g0 : w9.frozen? ⟨w.heap.size + 1, 0, none⟩ = false := frozen_of_row w9 _ 0 _ _ r1
  have g1 : w9.frozen? ⟨w.heap.size + 1, 1, none⟩ = false := frozen_of_row w9 _ 1 _ _ r1
  have g2 : w9.frozen? ⟨w.heap.size + 1, 2, none⟩ = false := frozen_of_row w9 _ 2 _ _ r1
  have g3 : w9.frozen? ⟨w.heap.size + 1, 3, none⟩ = false := frozen_of_row w9 _ 3 _ _ r1
  have R1' := Lib.hid r1
  have R2' := Lib.hid r2
  have OI := Lib.hid (own_base hi9 (show w.heap.size ≤ w.heap.size + 3 by omega))
  have OO := Lib.hid (own_base ho9 (show w.heap.size ≤ w.heap.size + 3 by omega))
  have OU := Lib.hid (own_base hown9 (show w.heap.size ≤ w8.heap.size by omega))
  have HB9 := Lib.hid (hb8.trans (hb9.mono (by omega)))
  clear t1 t2 ho8 hi8 hb8 hz8 hown9 hb9 r1 r2 hi9 ho9
  go_wp2
  refine bodyPost_ret (v := .agg #[.int .i64 c.r, .slice B1 c.i.length d1, .slice B2 c.ops.length d2, .slice B3 c.o.length d3]) (by simp [results, Try.results17, go_sem, b0, b1, b2, b3]) rfl ⟨B1, B2, B3, d1, d2, d3, rfl, ⟨?_, ?_, ?_, apt.out⟩, ?_⟩
  · exact own_set5 OI.out (by omega) (by decide) R2'.out R1'.out
  · exact own_set5 OO.out (by omega) (by decide) R2'.out R1'.out
  · exact own_set5 OU.out (by omega) (by decide) R2'.out R1'.out
  · exact ((((HB9.out.setCell (by simp; omega) _).setCell (by simp) _).setCell (by simp) _).setCell (by simp) _).setCell (by simp) _
end Go.Proofs.Ytbbjgcagkmlngab
/- The laws' own helpers: comparison and marks of codes of registers. -/
namespace Go.Proofs.Ytbbjgcagkmlngab
open Go.RowKit

set_option maxHeartbeats 1000000 in
theorem eqRegOp_any (a b : Int × Int × Int) (w : World) :
    Calls Try.prog 129 #[.agg #[.int .i64 a.1, .int .i64 a.2.1, .int .i64 a.2.2], .agg #[.int .i64 b.1, .int .i64 b.2.1, .int .i64 b.2.2]] w fun e w' => e = .returned (.bool (decide (a = b))) ∧ Below w.heap.size w w' := by
  have hb : ∀ o o', Below w.heap.size w ((w.alloc o).alloc o') := fun o o' => ((Below.refl _ _).alloc (Nat.le_refl _) _).alloc (by simp) _
  have HB := Lib.hid hb
  clear hb
  obtain ⟨x, y, z⟩ := a
  obtain ⟨x', y', z'⟩ := b
  simp only
  by_cases h1 : x = x'
  · by_cases h2 : y = y'
    · by_cases h3 : z = z'
      · subst h1
        subst h2
        subst h3
        go_enter Try.func129, Try.ntmps129
        go_wp2
        go_ret
        exact ⟨ret_bool (by simp), HB.out _ _⟩
      · have E := Lib.hid (show decide ((x, y, z) = (x', y', z')) = false by simp [h3])
        have hne : (z != z') = true := by simpa using h3
        subst h1
        subst h2
        clear h3
        go_enter Try.func129, Try.ntmps129
        go_wp2
        go_ret
        exact ⟨ret_bool E.out.symm, HB.out _ _⟩
    · have E := Lib.hid (show decide ((x, y, z) = (x', y', z')) = false by simp [h2])
      have hne : (y != y') = true := by simpa using h2
      subst h1
      clear h2
      go_enter Try.func129, Try.ntmps129
      go_wp2
      go_ret
      exact ⟨ret_bool E.out.symm, HB.out _ _⟩
  · have E := Lib.hid (show decide ((x, y, z) = (x', y', z')) = false by simp [h1])
    have hne : (x != x') = true := by simpa using h1
    clear h1
    go_enter Try.func129, Try.ntmps129
    go_wp2
    go_ret
    exact ⟨ret_bool E.out.symm, HB.out _ _⟩

set_option maxRecDepth 100000 in
set_option maxHeartbeats 2000000 in
theorem eqRegOpS_any (B B' : Nat) (A A' : Option Addr) (c c' : Nat) (a b : List (Int × Int × Int)) (w : World) (hm : a.length ≤ 4000000) (_hm' : b.length ≤ 4000000) (hB : B ≤ w.heap.size) (hB' : B' ≤ w.heap.size) (hr : Rd w B 3 A a.length (fl3 a)) (hr' : Rd w B' 3 A' b.length (fl3 b)) :
    Calls Try.prog 80 #[.slice A a.length c, .slice A' b.length c'] w fun e w' => e = .returned (.bool (decide (a = b))) ∧ Below w.heap.size w w' := by
  have H := Lib.hid hr
  have H' := Lib.hid hr'
  clear hr hr'
  by_cases hl : a.length = b.length
  · have hlb : ((a.length : Int) != (b.length : Int)) = false := by simp [hl]
    have L := Lib.hid hl
    clear hl
    go_enter Try.func80, Try.ntmps80
    go_wp2
    go_loopw [5] (fun i wr => ∃ k : Nat, k ≤ a.length ∧ i = .int .i64 k ∧ a.take k = b.take k ∧ Below w.heap.size w wr) (fun i _ => a.length - (intOf i).toNat)
    case atStart => exact ⟨0, by omega, rfl, rfl, Below.refl _ _⟩
    case round =>
      obtain ⟨k, hk, rfl, hq, hbel⟩ := hrel
      have Q := Lib.hid hq
      clear hq
      by_cases hlt : k < a.length
      · have hlt' : k < b.length := by have := L.out; omega
        obtain ⟨b1, off, rfl, hb, hc1, hc2, hc3⟩ := (H.out.below' hbel hB).op hlt
        obtain ⟨b2, off2, rfl, hb2, hd1, hd2, hd3⟩ := (H'.out.below' hbel hB').op hlt'
        have i1 : (k : Int) < (a.length : Int) := by omega
        have i2 : (k : Int) < (b.length : Int) := by omega
        have i0 : (0 : Int) ≤ (k : Int) := by omega
        have BEL := Lib.hid hbel
        clear hbel
        obtain ⟨q, hq⟩ : ∃ q, decide (a[k] = b[k]) = q := ⟨_, rfl⟩
        have hE := eqRegOp_any a[k] b[k] wr.drew
        rw [hq] at hE
        have HE := Lib.hid hE
        have QQ := Lib.hid hq
        clear hq hE
        cases q with
        | true =>
          go_wp2
          refine wp_region_Tw [0, 1, 2, 3, 4, 5, 6, 7, 9] [3, 7] (.lp 0 (.lp 1 (.lp 2 (.lp 4 (.lp 5 (.lp 6 (.ls 3 (.ls 7 (.hv 8 (.lp 9 (.done))))))))))) (by kernel_rfl) (by kernel_rfl) ?_
          (repeat (first | (refine T_lp rfl (fun K hK => ?_); go_simp; refine hK _ ?_; clear hK K) | (refine T_ls rfl rfl (fun K hK => ?_); go_simp; refine hK _ ?_; clear hK K)))
          (refine T_hv rfl (by kernel_rfl) (fun K hK => ?_); go_simp)
          go_at_call 129
          refine HE.out.mono ?_
          rintro e w5 ⟨rfl, hb5⟩
          (go_simp; refine hK _ _ ?_; clear hK K)
          (repeat (first | (refine T_lp rfl (fun K hK => ?_); go_simp; refine hK _ ?_; clear hK K) | (refine T_ls rfl rfl (fun K hK => ?_); go_simp; refine hK _ ?_; clear hK K)))
          refine T_done ?_
          go_wp2
          go_roundw
          case rel =>
            refine ⟨k + 1, by omega, by go_num, ?_, BEL.out.drew.trans (hb5.mono (by have := BEL.out.size; simpa using this))⟩
            rw [List.take_succ_eq_append_getElem hlt, List.take_succ_eq_append_getElem hlt', Q.out]
            have := QQ.out
            simp only [decide_eq_true_eq] at this
            rw [this]
          case measure => simp [intOf]; omega
        | false =>
          go_wp2
          refine wp_region_Tw [0, 1, 2, 3, 4, 5, 6, 7, 9] [3, 7] (.lp 0 (.lp 1 (.lp 2 (.lp 4 (.lp 5 (.lp 6 (.ls 3 (.ls 7 (.hv 8 (.lp 9 (.done))))))))))) (by kernel_rfl) (by kernel_rfl) ?_
          (repeat (first | (refine T_lp rfl (fun K hK => ?_); go_simp; refine hK _ ?_; clear hK K) | (refine T_ls rfl rfl (fun K hK => ?_); go_simp; refine hK _ ?_; clear hK K)))
          (refine T_hv rfl (by kernel_rfl) (fun K hK => ?_); go_simp)
          go_at_call 129
          refine HE.out.mono ?_
          rintro e w5 ⟨rfl, hb5⟩
          (go_simp; refine hK _ _ ?_; clear hK K)
          (repeat (first | (refine T_lp rfl (fun K hK => ?_); go_simp; refine hK _ ?_; clear hK K) | (refine T_ls rfl rfl (fun K hK => ?_); go_simp; refine hK _ ?_; clear hK K)))
          refine T_done ?_
          go_wp2
          go_ret
          refine ⟨ret_bool ?_, BEL.out.drew.trans (hb5.mono (by have := BEL.out.size; simpa using this))⟩
          symm
          rw [decide_eq_false_iff_not]
          intro e
          subst e
          have := QQ.out
          simp at this
      · go_wp2
        go_ret
        refine ⟨ret_bool ?_, hbel⟩
        have h := Q.out
        have h2 := L.out
        rw [List.take_of_length_le (by omega), List.take_of_length_le (by omega)] at h
        simp [h]
  · have hlb : ((a.length : Int) != (b.length : Int)) = true := by rw [bne_iff_ne]; omega
    have L := Lib.hid hl
    clear hl
    go_enter Try.func80, Try.ntmps80
    go_wp2
    go_ret
    refine ⟨ret_bool ?_, Below.refl _ _⟩
    symm
    rw [decide_eq_false_iff_not]
    intro e
    exact L.out (by rw [e])

set_option maxRecDepth 100000 in
set_option maxHeartbeats 2000000 in
/-- A code against one that reads alike. -/
theorem eqRegCode_refl (B B' : Nat) (A1 A2 A3 D1 D2 D3 : Option Addr) (c1 c2 c3 d1 d2 d3 : Nat) (c : Rc) (w : World) (h1 : c.i.length ≤ 4000000) (h2 : c.ops.length ≤ 4000000) (h3 : c.o.length ≤ 4000000)
    (hB : B ≤ w.heap.size) (hB' : B' ≤ w.heap.size) (hr : RdC w B A1 A2 A3 c) (hr' : RdC w B' D1 D2 D3 c) :
    Calls Try.prog 19 #[.agg #[.int .i64 c.r, .slice A1 c.i.length c1, .slice A2 c.ops.length c2, .slice A3 c.o.length c3], .agg #[.int .i64 c.r, .slice D1 c.i.length d1, .slice D2 c.ops.length d2, .slice D3 c.o.length d3]] w fun e w' =>
      e = .returned (.bool true) ∧ Below w.heap.size w w' := by
  have H := Lib.hid hr
  have H' := Lib.hid hr'
  clear hr hr'
  go_enter Try.func19, Try.ntmps19
  go_wp2_with fail
  go_at_call 26
  generalize hw1 : World.alloc w _ = w1
  obtain ⟨⟨x0, x1, x2, x3⟩, xs, xb⟩ := bx4r hw1
  clear hw1
  generalize hw2 : World.alloc w1 _ = w2
  obtain ⟨⟨y0, y1, y2, y3⟩, ys, yb⟩ := bx4r hw2
  clear hw2
  rw [xs] at y0 y1 y2 y3
  have x2 := (yb.cell (p := ⟨w.heap.size, 2, none⟩) (by simp only []; omega)).trans x2
  have x3 := (yb.cell (p := ⟨w.heap.size, 3, none⟩) (by simp only []; omega)).trans x3
  have HB := Lib.hid (xb.trans (yb.mono (by omega)))
  have hs2 : w.heap.size + 2 = w2.heap.size := by omega
  clear x0 x1 y0 y1 xs ys xb yb
  have hE := eqIntS_any B B' A1 D1 c1 d1 c.i c.i w2 h1 h1 (H.out.1.below' HB.out hB) (H'.out.1.below' HB.out hB')
  rw [eqI_refl] at hE
  refine hE.mono ?_
  rintro e w3 ⟨rfl, hd⟩
  clear hE
  have hd' := hd.below w2.heap.size
  have x2 := (hd'.cell (p := ⟨w.heap.size, 2, none⟩) (by simp only []; omega)).trans x2
  have x3 := (hd'.cell (p := ⟨w.heap.size, 3, none⟩) (by simp only []; omega)).trans x3
  have y2 := (hd'.cell (p := ⟨w.heap.size + 1, 2, none⟩) (by simp only []; omega)).trans y2
  have y3 := (hd'.cell (p := ⟨w.heap.size + 1, 3, none⟩) (by simp only []; omega)).trans y3
  have HB3 := Lib.hid (HB.out.trans (hd'.mono (show w.heap.size ≤ w2.heap.size by omega)))
  have hs3 : w.heap.size + 2 ≤ w3.heap.size := by have := hd'.size; omega
  clear hd hd' hs2
  go_wp2_with fail
  go_at_call 80
  have hE := eqRegOpS_any B B' A2 D2 c2 d2 c.ops c.ops w3 h2 h2 (by omega) (by omega) (H.out.2.1.below' HB3.out hB) (H'.out.2.1.below' HB3.out hB')
  rw [decide_eq_true rfl] at hE
  refine hE.mono ?_
  rintro e w4 ⟨rfl, hd'⟩
  clear hE
  have x3 := (hd'.cell (p := ⟨w.heap.size, 3, none⟩) (by simp only []; omega)).trans x3
  have y3 := (hd'.cell (p := ⟨w.heap.size + 1, 3, none⟩) (by simp only []; omega)).trans y3
  have HB4 := Lib.hid (HB3.out.trans (hd'.mono (show w.heap.size ≤ w3.heap.size by omega)))
  clear hd' x2 y2
  go_wp2_with fail
  go_at_call 26
  have hE := eqIntS_any B B' A3 D3 c3 d3 c.o c.o w4 h3 h3 (H.out.2.2.below' HB4.out hB) (H'.out.2.2.below' HB4.out hB')
  rw [eqI_refl] at hE
  refine hE.mono ?_
  rintro e w5 ⟨rfl, hd⟩
  clear hE
  go_wp2
  go_ret
  exact ⟨rfl, HB4.out.trans (hd.below _)⟩

def marksO (k : Int) (n : Nat) : List (Int × Int × Int) := (List.range n).map fun i : Nat => (k + 3 * (i : Int), k + 3 * (i : Int) + 1, k + 3 * (i : Int) + 2)
theorem marksO_length (k : Int) (n : Nat) : (marksO k n).length = n := by simp [marksO]
theorem marksO_succ (k : Int) (n : Nat) : marksO k (n + 1) = marksO k n ++ [(k + 3 * (n : Int), k + 3 * (n : Int) + 1, k + 3 * (n : Int) + 2)] := by
  unfold marksO
  rw [List.range_succ, List.map_append]
  rfl
theorem over_set_op (s : List (Int × Int × Int)) (m : Int) (k : Nat) (hk : k < s.length) :
    (((fl3 ((marksO m k) ++ s.drop k)).set (k * 3) (I (m + 3 * (k : Int)))).set (k * 3 + 1) (I (m + 3 * (k : Int) + 1))).set (k * 3 + 2) (I (m + 3 * (k : Int) + 2)) = fl3 ((marksO m (k + 1)) ++ s.drop (k + 1)) := by
  have hl : (fl3 (marksO m k)).length = k * 3 := by rw [fl3_length, marksO_length]
  have e2 : fl3 (s.drop k) = I (s[k]).1 :: I (s[k]).2.1 :: I (s[k]).2.2 :: fl3 (s.drop (k + 1)) := by rw [List.drop_eq_getElem_cons hk]; rfl
  rw [fl3_app, e2, List.set_append_right _ _ (by omega), hl, Nat.sub_self, List.set_cons_zero, List.set_append_right _ _ (by omega), hl, show k * 3 + 1 - k * 3 = 1 by omega, List.set_cons_succ, List.set_cons_zero,
    List.set_append_right _ _ (by omega), hl, show k * 3 + 2 - k * 3 = 2 by omega, List.set_cons_succ, List.set_cons_succ, List.set_cons_zero, marksO_succ, fl3_app, fl3_app]
  simp [fl3]
set_option maxRecDepth 100000 in
set_option maxHeartbeats 2000000 in
theorem markRegOpS_any (B : Nat) (A : Option Addr) (c : Nat) (s : List (Int × Int × Int)) (m : Int) (w : World) (hm : s.length ≤ 4000000) (hm0 : 0 ≤ m) (hm1 : m ≤ 100000000) (hown : OwO w B (.slice A s.length c) s) :
    Calls Try.prog 81 #[.slice A s.length c, .int .i64 m] w fun e w' => e = .returned (.int .i64 (m + 3 * (s.length : Int))) ∧ OwO w' B (.slice A s.length c) (marksO m s.length) ∧ w.grownBy w' (Value.slice A s.length c).ownBlock := by
  have HOWN := Lib.hid hown
  clear hown
  go_enter Try.func81, Try.ntmps81
  go_wp2
  go_loopw [1, 5] (fun kv iv wr => ∃ k : Nat, k ≤ s.length ∧ iv = .int .i64 k ∧ kv = .int .i64 (m + 3 * (k : Int)) ∧ OwO wr B (.slice A s.length c) (marksO m k ++ s.drop k) ∧ w.grownBy wr (Value.slice A s.length c).ownBlock) (fun _ i _ => s.length - (intOf i).toNat)
  case atStart => exact ⟨0, by omega, rfl, by simp, HOWN.out, World.grownBy.refl _ _⟩
  case round =>
    obtain ⟨k, hk, rfl, rfl, hown, hbel⟩ := hrel
    have hll : (marksO m k ++ s.drop k).length = s.length := by rw [List.length_append, marksO_length, List.length_drop]; omega
    by_cases hlt : k < s.length
    · have ho : wr.ownsRow B 88 3 (.slice A s.length c) s.length (fl3 (marksO m k ++ s.drop k)) := by
        have h : wr.ownsRow _ _ _ _ _ _ := hown
        rw [hll] at h
        exact h
      obtain ⟨g, rfl, hgB, hgs, hcs, hfs⟩ := own_at ho (by omega)
      have hlt' : k < (marksO m k ++ s.drop k).length := by rw [hll]; exact hlt
      obtain ⟨v0, hv0⟩ : ∃ v, wr.cell? ⟨g, k * 3, none⟩ = some (.int .i64 v) := ⟨_, by rw [hcs _ (by omega)]; exact (fl3_at hlt').1⟩
      obtain ⟨v1, hv1⟩ : ∃ v, wr.cell? ⟨g, k * 3 + 1, none⟩ = some (.int .i64 v) := ⟨_, by rw [hcs _ (by omega)]; exact (fl3_at hlt').2.1⟩
      obtain ⟨v2, hv2⟩ : ∃ v, wr.cell? ⟨g, k * 3 + 2, none⟩ = some (.int .i64 v) := ⟨_, by rw [hcs _ (by omega)]; exact (fl3_at hlt').2.2⟩
      have hf0 := hfs (k * 3)
      have ho1 := (ho.stored (k * 3) (I (m + 3 * (k : Int)))).1
      have hf1 := ho1.frozenAt (k * 3 + 1)
      have hu1 : (wr.setCell ⟨g, k * 3, none⟩ (I (m + 3 * (k : Int)))).cell? ⟨g, k * 3 + 1, none⟩ = some (.int .i64 v1) := by
        rw [ho1.cellAt _ (by omega), List.getElem?_set_ne (by omega), ← hcs _ (by omega)]
        exact hv1
      have ho2 := (ho1.stored (k * 3 + 1) (I (m + 3 * (k : Int) + 1))).1
      have hf2 := ho2.frozenAt (k * 3 + 2)
      have hu2 : ((wr.setCell ⟨g, k * 3, none⟩ (I (m + 3 * (k : Int)))).setCell ⟨g, k * 3 + 1, none⟩ (I (m + 3 * (k : Int) + 1))).cell? ⟨g, k * 3 + 2, none⟩ = some (.int .i64 v2) := by
        rw [ho2.cellAt _ (by omega), List.getElem?_set_ne (by omega), List.getElem?_set_ne (by omega), ← hcs _ (by omega)]
        exact hv2
      have HO := Lib.hid ho2
      have HB := Lib.hid hbel
      have hwr : IntKind.i64.wrap (m + 3 * (k : Int) + 1 + 1) = m + 3 * (k : Int) + 2 := by rw [IntWalk.i64_in _ (by omega)]; omega
      have hwq : m + 3 * (k : Int) + 1 + 1 = m + 3 * (k : Int) + 2 := by omega
      clear ho ho1 ho2 hown hbel hcs hfs
      go_wp2
      go_roundw
      case rel =>
        refine ⟨k + 1, by omega, by go_num, by go_num, ?_, grown_set (grown_set (grown_set HB.out _) _) _⟩
        have h := (HO.out.stored (k * 3 + 2) (I (m + 3 * (k : Int) + 2))).1
        rw [over_set_op s m k hlt] at h
        show World.ownsRow _ _ _ _ _ _ _
        rw [show (marksO m (k + 1) ++ s.drop (k + 1)).length = s.length by rw [List.length_append, marksO_length, List.length_drop]; omega]
        exact h
      case measure => simp [intOf]; omega
    · have hk' : k = s.length := by omega
      subst hk'
      rw [List.drop_length, List.append_nil] at hown
      go_wp2
      go_ret
      exact ⟨rfl, hown, hbel⟩

set_option maxHeartbeats 2000000 in
theorem heldRegOpS_any (B : Nat) (A : Option Addr) (c n : Nat) (m : Int) (w : World) (hm : n ≤ 4000000) (hm0 : 0 ≤ m) (hm1 : m ≤ 100000000) (hr : Rd w B 3 A n (fl3 (marksO m n))) :
    Calls Try.prog 82 #[.slice A n c, .int .i64 m] w fun e w' => e = .returned (.int .i64 (m + 3 * (n : Int))) ∧ w = w' := by
  have hr2 : Rd w B 3 A (marksO m n).length (fl3 (marksO m n)) := by rw [marksO_length]; exact hr
  have H := Lib.hid hr2
  clear hr hr2
  go_enter Try.func82, Try.ntmps82
  go_wp2
  go_loopw [1, 5] (fun kv iv wr => ∃ k : Nat, k ≤ n ∧ iv = .int .i64 k ∧ kv = .int .i64 (m + 3 * (k : Int)) ∧ w = wr) (fun _ i _ => n - (intOf i).toNat)
  case atStart => exact ⟨0, by omega, rfl, by simp, rfl⟩
  case round =>
    obtain ⟨k, hk, rfl, rfl, rfl⟩ := hrel
    by_cases hlt : k < n
    · obtain ⟨b, off, rfl, hb, hc1, hc2, hc3⟩ := H.out.op (show k < (marksO m n).length by rw [marksO_length]; exact hlt)
      have e : (marksO m n)[k]'(by rw [marksO_length]; exact hlt) = (m + 3 * (k : Int), m + 3 * (k : Int) + 1, m + 3 * (k : Int) + 1 + 1) := by simp [marksO]; omega
      rw [e] at hc1 hc2 hc3
      have ik : (k : Int) < (n : Int) := by omega
      go_wp2
      go_roundw
      case rel => exact ⟨k + 1, by omega, by go_num, by go_num, trivial⟩
      case measure => simp [intOf]; omega
    · have hk' : k = n := by omega
      subst hk'
      go_wp2
      go_ret
      exact ⟨rfl, rfl⟩

/-- The marks of a code. -/
def marksC (m : Int) (a b c : Nat) : Rc := ⟨0, marksI m a, marksO (m + (a : Int)) b, marksI (m + (a : Int) + 3 * (b : Int)) c⟩
set_option maxRecDepth 100000 in
set_option maxHeartbeats 4000000 in
theorem markRegCode_any (B hi : Nat) (A1 A2 A3 : Option Addr) (c1 c2 c3 : Nat) (c : Rc) (m : Int) (w : World) (h1 : c.i.length ≤ 1048576) (h2 : c.ops.length ≤ 1048576) (h3 : c.o.length ≤ 1048576) (hm0 : 0 ≤ m) (hm1 : m ≤ 10) (hB : B ≤ w.heap.size) (hhi : hi ≤ w.heap.size) (hown : OwC w B A1 A2 A3 c1 c2 c3 c)
    (hb1 : ∀ k, (Value.slice A1 c.i.length c1).ownBlock = some k → k < hi) (hb2 : ∀ k, (Value.slice A2 c.ops.length c2).ownBlock = some k → k < hi) (hb3 : ∀ k, (Value.slice A3 c.o.length c3).ownBlock = some k → k < hi) :
    Calls Try.prog 20 #[.agg #[.int .i64 c.r, .slice A1 c.i.length c1, .slice A2 c.ops.length c2, .slice A3 c.o.length c3], .int .i64 m] w fun e w' =>
      e = .returned (.int .i64 (m + (c.i.length : Int) + 3 * (c.ops.length : Int) + (c.o.length : Int))) ∧ OwI w' B (.slice A1 c.i.length c1) (marksI m c.i.length) ∧ OwO w' B (.slice A2 c.ops.length c2) (marksO (m + (c.i.length : Int)) c.ops.length) ∧ OwI w' B (.slice A3 c.o.length c3) (marksI (m + (c.i.length : Int) + 3 * (c.ops.length : Int)) c.o.length) ∧ Win B hi w w' := by
  have HOWN := Lib.hid hown
  have H1 := Lib.hid hb1
  have H2 := Lib.hid hb2
  have H3 := Lib.hid hb3
  have APT := Lib.hid (show (Value.slice A3 c.o.length c3).ownBlock = none ∨ (Value.slice A3 c.o.length c3).ownBlock ≠ (Value.slice A1 c.i.length c1).ownBlock from by
    cases h : (Value.slice A3 c.o.length c3).ownBlock with
    | none => exact .inl rfl
    | some k => exact .inr fun e => hown.2.2.2 k e.symm h)
  have APU := Lib.hid (show (Value.slice A1 c.i.length c1).ownBlock = none ∨ (Value.slice A1 c.i.length c1).ownBlock ≠ (Value.slice A3 c.o.length c3).ownBlock from by
    cases h : (Value.slice A1 c.i.length c1).ownBlock with
    | none => exact .inl rfl
    | some k => exact .inr fun e => hown.2.2.2 k h e.symm)
  clear hown hb1 hb2 hb3
  go_enter Try.func20, Try.ntmps20
  go_wp2_with fail
  go_at_call 29
  generalize hw1 : World.alloc w _ = w1
  obtain ⟨⟨x0, x1, x2, x3⟩, xs, xb⟩ := bx4r hw1
  clear hw1
  have hown1 := HOWN.out.below xb
  refine (markIntS_any B A1 c1 c.i m w1 (by omega) hm0 (by omega) hown1.1).mono ?_
  rintro e w2 ⟨rfl, ho2, hg2⟩
  have o2o := World.ownsRow.kept hown1.2.1 hg2 (own_ne hown1.2.1 hown1.1 (by decide))
  have o2u := World.ownsRow.kept hown1.2.2.1 hg2 APT.out
  have hw2 : Win B hi w1 w2 := Win.of_grown hg2 (by omega) (fun k hk => ⟨(own_block hown1.1 k hk).1, H1.out k hk⟩)
  have y2 : w2.cell? ⟨w.heap.size, 2, none⟩ = some (.slice A2 c.ops.length c2) := (World.cell?_of_block (hw2.2 w.heap.size (by omega) (by omega))).trans x2
  have y3 : w2.cell? ⟨w.heap.size, 3, none⟩ = some (.slice A3 c.o.length c3) := (World.cell?_of_block (hw2.2 w.heap.size (by omega) (by omega))).trans x3
  have HW2 := Lib.hid ((Win.of_below xb hB).trans hw2)
  have HI2 := Lib.hid ho2
  have HO2 := Lib.hid o2o
  have HU2 := Lib.hid o2u
  have hs2 : w.heap.size + 1 ≤ w2.heap.size := by have := hg2.size; omega
  clear x0 x1 x2 x3 xs xb hown1 ho2 hg2 o2o o2u hw2
  go_wp2_with fail
  go_at_call 81
  refine (markRegOpS_any B A2 c2 c.ops (m + (c.i.length : Int)) w2 (by omega) (by omega) (by omega) HO2.out).mono ?_
  rintro e w3 ⟨rfl, ho3, hg3⟩
  have o3i := World.ownsRow.kept HI2.out hg3 (own_ne HI2.out HO2.out (by decide))
  have o3u := World.ownsRow.kept HU2.out hg3 (own_ne HU2.out HO2.out (by decide))
  have hw3 : Win B hi w2 w3 := Win.of_grown hg3 (by omega) (fun k hk => ⟨(own_block HO2.out k hk).1, H2.out k hk⟩)
  have z3 : w3.cell? ⟨w.heap.size, 3, none⟩ = some (.slice A3 c.o.length c3) := (World.cell?_of_block (hw3.2 w.heap.size (by omega) (by omega))).trans y3
  have HW3 := Lib.hid (HW2.out.trans hw3)
  have HI3 := Lib.hid o3i
  have HO3 := Lib.hid ho3
  have HU3 := Lib.hid o3u
  have hs3 : w.heap.size + 1 ≤ w3.heap.size := by have := hg3.size; omega
  clear y2 y3 ho3 hg3 o3i o3u hw3
  go_wp2_with fail
  go_at_call 29
  refine (markIntS_any B A3 c3 c.o (m + (c.i.length : Int) + 3 * (c.ops.length : Int)) w3 (by omega) (by omega) (by omega) HU3.out).mono ?_
  rintro e w4 ⟨rfl, ho4, hg4⟩
  have APV := APU.out
  have o4i := World.ownsRow.kept HI3.out hg4 APV
  have o4o := World.ownsRow.kept HO3.out hg4 (own_ne HO3.out HU3.out (by decide))
  have hw4 : Win B hi w3 w4 := Win.of_grown hg4 (by omega) (fun k hk => ⟨(own_block HU3.out k hk).1, H3.out k hk⟩)
  have HW4 := Lib.hid (HW3.out.trans hw4)
  have HI4 := Lib.hid o4i
  have HO4 := Lib.hid o4o
  have HU4 := Lib.hid ho4
  clear z3 ho4 hg4 o4i o4o hw4 APV
  go_wp2
  go_ret
  exact ⟨rfl, HI4.out, HO4.out, HU4.out, HW4.out⟩

theorem own_rd_marksO {w : World} {B c n : Nat} {A : Option Addr} {m : Int} (h : OwO w B (.slice A n c) (marksO m n)) : Rd w w.heap.size 3 A n (fl3 (marksO m n)) := by
  have h' : w.ownsRow _ _ _ _ _ _ := h
  rw [marksO_length] at h'
  exact Rd.of_own h'

set_option maxRecDepth 100000 in
set_option maxHeartbeats 2000000 in
theorem heldRegCode_any (B : Nat) (A1 A2 A3 : Option Addr) (c1 c2 c3 n1 n2 n3 : Nat) (z m : Int) (w : World) (h1 : n1 ≤ 1048576) (h2 : n2 ≤ 1048576) (h3 : n3 ≤ 1048576) (hm0 : 0 ≤ m) (hm1 : m ≤ 10) (hB : B ≤ w.heap.size) (hr1 : Rd w B 1 A1 n1 ((marksI m n1).map I)) (hr2 : Rd w B 3 A2 n2 (fl3 (marksO (m + (n1 : Int)) n2))) (hr3 : Rd w B 1 A3 n3 ((marksI (m + (n1 : Int) + 3 * (n2 : Int)) n3).map I)) :
    Calls Try.prog 21 #[.agg #[.int .i64 z, .slice A1 n1 c1, .slice A2 n2 c2, .slice A3 n3 c3], .int .i64 m] w fun e w' =>
      e = .returned (.int .i64 (m + (n1 : Int) + 3 * (n2 : Int) + (n3 : Int))) ∧ Below w.heap.size w w' := by
  have H1 := Lib.hid hr1
  have H2 := Lib.hid hr2
  have H3 := Lib.hid hr3
  clear hr1 hr2 hr3
  have hn1 : ¬ (m + (n1 : Int) < 0) := by omega
  have hn2 : ¬ (m + (n1 : Int) + 3 * (n2 : Int) < 0) := by omega
  have hn3 : ¬ (m + (n1 : Int) + 3 * (n2 : Int) + (n3 : Int) < 0) := by omega
  go_enter Try.func21, Try.ntmps21
  go_wp2_with fail
  go_at_call 30
  generalize hw1 : World.alloc w _ = w1
  obtain ⟨⟨x0, x1, x2, x3⟩, xs, xb⟩ := bx4r hw1
  clear hw1
  refine (heldIntS_any B A1 c1 n1 m w1 (by omega) hm0 (by omega) (H1.out.below' xb hB)).mono ?_
  rintro e w2 ⟨rfl, rfl⟩
  have XB := Lib.hid xb
  clear xb
  go_wp2_with fail
  go_at_call 82
  refine (heldRegOpS_any B A2 c2 n2 (m + (n1 : Int)) w1 (by omega) (by omega) (by omega) (H2.out.below' XB.out hB)).mono ?_
  rintro e w3 ⟨rfl, rfl⟩
  go_wp2_with fail
  go_at_call 30
  refine (heldIntS_any B A3 c3 n3 (m + (n1 : Int) + 3 * (n2 : Int)) w1 (by omega) (by omega) (by omega) (H3.out.below' XB.out hB)).mono ?_
  rintro e w4 ⟨rfl, rfl⟩
  go_wp2
  go_ret
  exact ⟨rfl, XB.out⟩
end Go.Proofs.Ytbbjgcagkmlngab
/- A code of registers that came in, opened. -/
namespace Go.Proofs.Ytbbjgcagkmlngab
open Go.ChangeShapes Go.WideShapes Go.ChangeAt Go.RowKit Go.Deep Go.Joins

section
variable {H : Type} {enc : TypeId × Value → H} {W : World} {base : Nat} {spare : Nat → Bool} {held : Bool}

set_option maxRecDepth 100000 in
set_option maxHeartbeats 1000000 in
/-- A slice of ops that came in. -/
theorem open_ops_rd {fuel : Nat} {x0 : Value} {x : DataW H × List MemPlace} (h : DataW.trod enc Try.prog W base spare held fuel 23 [x0] = some x) :
    ∃ (A : Option Addr) (c : Nat) (s : List (Int × Int × Int)), x0 = .slice A s.length c ∧ s.length ≤ maxLen ∧ Rd W W.heap.size 3 A s.length (fl3 s) := by
  rcases open_slice Try.underlying23 h with ⟨hcs, _⟩ | ⟨a, len, cap, m, n, D, Pl, hcs, _, hl, hm, hmm, _, hi⟩
  · simp only [List.cons.injEq, and_true] at hcs
    exact ⟨none, 0, [], hcs, by simp [maxLen], Rd.nil _ _ _ _⟩
  · simp only [List.cons.injEq, and_true] at hcs
    have hC : Try.prog.cellsOf 151 = 3 := by kernel_rfl
    have hlm : len ≤ m := by split at hmm <;> omega
    have key : ∀ i, ∃ xy : Int × Int × Int, i < len → W.cell? ((a.add (i * 3)).add 0) = some (.int .i64 xy.1) ∧ W.cell? ((a.add (i * 3)).add 1) = some (.int .i64 xy.2.1) ∧ W.cell? ((a.add (i * 3)).add 2) = some (.int .i64 xy.2.2) := by
      intro i
      by_cases hil : i < len
      · obtain ⟨cs', hcells, htr⟩ := hi i (by omega)
        rw [hC] at hcells
        obtain ⟨_, hcl, hat⟩ := World.cells?_some hcells
        obtain ⟨y0, y1, y2, n', _, _, t0, t1, t2⟩ := trod_struct3 Try.underlying151 htr
        match cs', hcl with
        | [k0, k1, k2], _ =>
          obtain ⟨z0, e0, _, _⟩ := DataW.trod_int Try.underlying3 t0
          obtain ⟨z1, e1, _, _⟩ := DataW.trod_int Try.underlying3 t1
          obtain ⟨z2, e2, _, _⟩ := DataW.trod_int Try.underlying3 t2
          have c1 : Try.prog.cellsOf 3 = 1 := by kernel_rfl
          simp [c1] at e0 e1 e2
          subst e0
          subst e1
          subst e2
          exact ⟨(z0, z1, z2), fun _ => ⟨hat 0 (by omega), hat 1 (by omega), hat 2 (by omega)⟩⟩
      · exact ⟨(0, 0, 0), fun h => absurd h hil⟩
    obtain ⟨f, hf⟩ : ∃ f : Nat → Int × Int × Int, ∀ i, i < len → W.cell? ((a.add (i * 3)).add 0) = some (.int .i64 (f i).1) ∧ W.cell? ((a.add (i * 3)).add 1) = some (.int .i64 (f i).2.1) ∧ W.cell? ((a.add (i * 3)).add 2) = some (.int .i64 (f i).2.2) :=
      ⟨fun i => Classical.choose (key i), fun i => Classical.choose_spec (key i)⟩
    have hlen : ((List.range len).map f).length = len := by simp
    refine ⟨some a, cap, (List.range len).map f, by rw [hlen]; exact hcs, by omega, ?_⟩
    rw [hlen]
    refine ⟨by rw [fl3_length, hlen], fun hn => ?_⟩
    have h0 := (hf 0 hn).1
    have e0 : (a.add (0 * 3)).add 0 = a := by unfold Addr.add; simp
    rw [e0] at h0
    refine ⟨a.block, a.off, by rw [← addr_form h0], World.block_lt_of_cell? _ _ h0, fun j hj => ?_⟩
    have hj' : j / 3 < len := by omega
    have hfl := fl3_at (s := (List.range len).map f) (k := j / 3) (by simpa using hj')
    have h1 := hf (j / 3) hj'
    rw [addr_form h0, add_form, add_form, add_form, add_form] at h1
    have hj2 : j % 3 = 0 ∨ j % 3 = 1 ∨ j % 3 = 2 := by omega
    rcases hj2 with hj2 | hj2 | hj2
    · have ej : j = j / 3 * 3 := by omega
      have := hfl.1
      rw [← ej] at this
      rw [this]
      have h2 := h1.1
      rw [Nat.add_zero, ← ej] at h2
      rw [h2]
      simp [I]
    · have ej : j = j / 3 * 3 + 1 := by omega
      have := hfl.2.1
      rw [← ej] at this
      rw [this]
      have h2 := h1.2.1
      rw [Nat.add_assoc, ← ej] at h2
      rw [h2]
      simp [I]
    · have ej : j = j / 3 * 3 + 2 := by omega
      have := hfl.2.2
      rw [← ej] at this
      rw [this]
      have h2 := h1.2.2
      rw [Nat.add_assoc, ← ej] at h2
      rw [h2]
      simp [I]

set_option maxRecDepth 100000 in
theorem open_code {v : Value} {d : DataW H} {p : List MemPlace} {b0 : Nat} {r : Reach} (hv : Value.okWide Try.prog W r b0 25 v) (h : DataW.Trod enc Try.prog W base spare held 25 v d p) :
    ∃ (A1 A2 A3 : Option Addr) (c1 c2 c3 : Nat) (q : Rc), v = .agg #[.int .i64 q.r, .slice A1 q.i.length c1, .slice A2 q.ops.length c2, .slice A3 q.o.length c3] ∧ q.i.length ≤ 9223372036854775807 ∧ q.ops.length ≤ 9223372036854775807 ∧ q.o.length ≤ 9223372036854775807 ∧ RdC W W.heap.size A1 A2 A3 q := by
  obtain ⟨v0, v1, v2, v3, y0, y1, y2, y3, n, rfl, _, _, t0, t1, t2, t3⟩ := open_agg4 Try.underlying25 (by kernel_rfl) (by kernel_rfl) hv h
  obtain ⟨z, e0, _, _⟩ := DataW.trod_int Try.underlying3 t0
  simp only [List.cons.injEq, and_true] at e0
  obtain ⟨A1, c1, l, e1, l1, r1⟩ := open_ints_rd t1
  obtain ⟨A2, c2, s, e2, l2, r2⟩ := open_ops_rd t2
  obtain ⟨A3, c3, o, e3, l3, r3⟩ := open_ints_rd t3
  subst e0
  subst e1
  subst e2
  subst e3
  exact ⟨A1, A2, A3, c1, c2, c3, ⟨z, l, s, o⟩, rfl, by unfold maxLen at l1; exact l1, by unfold maxLen at l2; exact l2, by unfold maxLen at l3; exact l3, r1, r2, r3⟩
end
end Go.Proofs.Ytbbjgcagkmlngab
/- Code of registers that is called otherwise, and packed, as data. -/
namespace Go.Proofs.Ytbbjgcagkmlngab
open Go.RowKit

/-- Code whose registers are called otherwise. -/
def rnC (f : Int → Int) (m : Int) (c : Rc) : Rc := ⟨m, c.i.map f, c.ops.map fun x => (f x.1, f x.2.1, f x.2.2), c.o.map f⟩
theorem rnC_lens (f : Int → Int) (m : Int) (c : Rc) : (rnC f m c).i.length = c.i.length ∧ (rnC f m c).ops.length = c.ops.length ∧ (rnC f m c).o.length = c.o.length := by simp [rnC]
theorem rnC_cong {f g : Int → Int} {m : Int} {c : Rc} (hi : ∀ x ∈ c.i, f x = g x) (hp : ∀ x ∈ c.ops, f x.1 = g x.1 ∧ f x.2.1 = g x.2.1 ∧ f x.2.2 = g x.2.2) (ho : ∀ x ∈ c.o, f x = g x) : rnC f m c = rnC g m c := by
  unfold rnC
  rw [List.map_congr_left hi, List.map_congr_left ho]
  congr 1
  refine List.map_congr_left fun x hx => ?_
  obtain ⟨h1, h2, h3⟩ := hp x hx
  rw [h1, h2, h3]
/-- A register that is told, put behind those that are. -/
def adT (l : List Int) (r : Int) : List Int := if hasI l r then l else l ++ [r]
theorem mem_adT {l : List Int} {r x : Int} : x ∈ adT l r ↔ x ∈ l ∨ x = r := by
  unfold adT hasI
  split
  · rename_i h
    rw [List.contains_iff_mem] at h
    exact ⟨.inl, fun h1 => h1.elim id (fun e => e ▸ h)⟩
  · rw [List.mem_append, List.mem_singleton]
theorem adT_nodup {l : List Int} {r : Int} (h : l.Nodup) : (adT l r).Nodup := by
  unfold adT hasI
  split
  · exact h
  · rename_i h1
    rw [List.nodup_append]
    refine ⟨h, by simp, fun a ha b hb e => ?_⟩
    rw [List.mem_singleton] at hb
    subst hb
    subst e
    exact h1 (List.contains_iff_mem.2 ha)
theorem adT_le (l : List Int) (r : Int) : (adT l r).length ≤ l.length + 1 := by unfold adT; split <;> simp
/-- The registers told by the inputs and the first k ops. -/
def tlK (i : List Int) (ops : List (Int × Int × Int)) : Nat → List Int
  | 0 => i
  | k + 1 => adT (adT (adT (tlK i ops k) (ops.getD k (0, 0, 0)).2.1) (ops.getD k (0, 0, 0)).2.2) (ops.getD k (0, 0, 0)).1
theorem tlK_nodup {i : List Int} {ops : List (Int × Int × Int)} (h : i.Nodup) : ∀ k, (tlK i ops k).Nodup := by
  intro k
  induction k with
  | zero => exact h
  | succ k ih => exact adT_nodup (adT_nodup (adT_nodup ih))
theorem tlK_le (i : List Int) (ops : List (Int × Int × Int)) : ∀ k, (tlK i ops k).length ≤ i.length + 3 * k := by
  intro k
  induction k with
  | zero => exact Nat.le_refl _
  | succ k ih =>
    simp only [tlK]
    have h1 := adT_le (tlK i ops k) (ops.getD k (0, 0, 0)).2.1
    have h2 := adT_le (adT (tlK i ops k) (ops.getD k (0, 0, 0)).2.1) (ops.getD k (0, 0, 0)).2.2
    have h3 := adT_le (adT (adT (tlK i ops k) (ops.getD k (0, 0, 0)).2.1) (ops.getD k (0, 0, 0)).2.2) (ops.getD k (0, 0, 0)).1
    omega
theorem tlK_mono {i : List Int} {ops : List (Int × Int × Int)} {x : Int} {k : Nat} : ∀ j, k ≤ j → x ∈ tlK i ops k → x ∈ tlK i ops j := by
  intro j h hx
  obtain ⟨d, rfl⟩ : ∃ d, j = k + d := ⟨j - k, by omega⟩
  clear h
  induction d with
  | zero => exact hx
  | succ d ih =>
    rw [show k + (d + 1) = (k + d) + 1 by omega]
    simp only [tlK]
    rw [mem_adT, mem_adT, mem_adT]
    exact .inl (.inl (.inl ih))
theorem tlK_in {R : Nat} {i : List Int} {ops : List (Int × Int × Int)} (hi : ∀ x ∈ i, 0 ≤ x ∧ x < (R : Int)) (hp : ∀ x ∈ ops, opIn R x = true) : ∀ k, k ≤ ops.length → ∀ x ∈ tlK i ops k, 0 ≤ x ∧ x < (R : Int) := by
  intro k
  induction k with
  | zero => intro _; exact hi
  | succ k ih =>
    intro hk x hx
    have hlt : k < ops.length := by omega
    have hg : ops.getD k (0, 0, 0) = ops[k] := by simp [hlt]
    have ho := hp _ (List.getElem_mem hlt)
    unfold opIn inB at ho
    simp only [Bool.and_eq_true, decide_eq_true_eq] at ho
    simp only [tlK] at hx
    rw [hg, mem_adT, mem_adT, mem_adT] at hx
    rcases hx with ((h | h) | h) | h
    · exact ih (by omega) x h
    · omega
    · omega
    · omega
def tld (c : Rc) : List Int := tlK c.i c.ops c.ops.length
theorem tld_op {c : Rc} {x : Int × Int × Int} (hx : x ∈ c.ops) : x.1 ∈ tld c ∧ x.2.1 ∈ tld c ∧ x.2.2 ∈ tld c := by
  obtain ⟨k, hk, rfl⟩ := List.mem_iff_getElem.1 hx
  have hg : c.ops.getD k (0, 0, 0) = c.ops[k] := by simp [hk]
  have key : ∀ y, y = (c.ops[k]).1 ∨ y = (c.ops[k]).2.1 ∨ y = (c.ops[k]).2.2 → y ∈ tlK c.i c.ops (k + 1) := by
    intro y hy
    simp only [tlK]
    rw [hg, mem_adT, mem_adT, mem_adT]
    rcases hy with h | h | h
    · exact .inr h
    · exact .inl (.inl (.inr h))
    · exact .inl (.inr h)
  exact ⟨tlK_mono _ hk (key _ (.inl rfl)), tlK_mono _ hk (key _ (.inr (.inl rfl))), tlK_mono _ hk (key _ (.inr (.inr rfl)))⟩
theorem full_told {R : Nat} {c : Rc} (hR : R ≤ 46) (hi : ∀ x ∈ c.i, 0 ≤ x ∧ x < (R : Int)) (hp : ∀ x ∈ c.ops, opIn R x = true) : ∀ k, k ≤ c.ops.length → ∀ r : Int, 0 ≤ r → r < R → 0 ≤ reg (rcA 46 c k) r → r ∈ tlK c.i c.ops k := by
  intro k
  induction k with
  | zero =>
    intro _ r r0 r1 h
    rcases rgI_full (m := 46) (i := c.i) (fun x hx => ⟨(hi x hx).1, by have := (hi x hx).2; omega⟩) r0 (by omega) c.i.length (Nat.le_refl _) with ⟨h1, _⟩ | ⟨_, _, h1⟩
    · have h' : 0 ≤ reg (rgI 46 c.i c.i.length) r := h
      omega
    · rw [List.take_length] at h1; exact h1
  | succ k ih =>
    intro hk r r0 r1 h
    have hlt : k < c.ops.length := by omega
    have hg : c.ops.getD k (0, 0, 0) = c.ops[k] := by simp [hlt]
    have ho := hp _ (List.getElem_mem hlt)
    unfold opIn inB at ho
    simp only [Bool.and_eq_true, decide_eq_true_eq] at ho
    have eA : rcA 46 c (k + 1) = (rcA 46 c k).set (c.ops[k]).1.toNat (((c.i.length + k : Nat) : Int)) := by
      show rgM _ _ _ (k + 1) = _
      simp only [rgM]
      rw [hg]
      rfl
    rw [eA, reg_set (by rw [rcA_len]; omega) r0] at h
    simp only [tlK]
    rw [hg, mem_adT, mem_adT, mem_adT]
    by_cases e : ((((c.ops[k]).1.toNat : Nat) : Int)) = r
    · exact .inr (by omega)
    · rw [if_neg e] at h
      exact .inl (.inl (.inl (ih (by omega) r r0 r1 h)))
/-- The numbers by which registers are called: of the first k that are told. -/
def nmZ (R : Nat) (l : List Int) : Nat → List Int
  | 0 => List.replicate R 0
  | k + 1 => (nmZ R l k).set (l.getD k 0).toNat (k : Int)
theorem nmZ_len (R : Nat) (l : List Int) : ∀ k, (nmZ R l k).length = R := by
  intro k
  induction k with
  | zero => simp [nmZ]
  | succ k ih => simp [nmZ, ih]
theorem nmZ_at {R : Nat} {l : List Int} (hl : ∀ x ∈ l, 0 ≤ x ∧ x < (R : Int)) (hn : l.Nodup) : ∀ k, k ≤ l.length → ∀ j (_hj : j < k) (hjl : j < l.length), (nmZ R l k).getD (l[j]).toNat 0 = (j : Int) := by
  intro k
  induction k with
  | zero => intro _ j hj; omega
  | succ k ih =>
    intro hk j hj hjl
    have hlt : k < l.length := by omega
    have hg : l.getD k 0 = l[k] := by simp [hlt]
    obtain ⟨x0, x1⟩ := hl _ (List.getElem_mem hlt)
    obtain ⟨y0, y1⟩ := hl _ (List.getElem_mem hjl)
    simp only [nmZ]
    rw [hg, List.getD_eq_getElem?_getD, List.getElem?_set]
    by_cases e : k = j
    · subst e
      rw [if_pos rfl, if_pos (by rw [nmZ_len]; omega)]
      rfl
    · have hne : l[k] ≠ l[j] := fun h => e ((List.getElem_inj hn).1 h)
      rw [if_neg (by omega), ← List.getD_eq_getElem?_getD]
      exact ih (by omega) j (by omega) hjl
theorem plc_nodup {l : List Int} (hn : l.Nodup) {j : Nat} (hj : j < l.length) : plc l l[j] 0 = (j : Int) := by
  refine plc_hit hj ?_ (by simp)
  cases h : hasI (l.take j) l[j] with
  | false => rfl
  | true =>
    unfold hasI at h
    rw [List.contains_iff_mem] at h
    obtain ⟨i, hi, e⟩ := List.mem_iff_getElem.1 h
    rw [List.length_take] at hi
    rw [List.getElem_take] at e
    have := (List.getElem_inj hn).1 e
    omega
theorem nmZ_plc {R : Nat} {l : List Int} (hl : ∀ x ∈ l, 0 ≤ x ∧ x < (R : Int)) (hn : l.Nodup) {x : Int} (hx : x ∈ l) : (nmZ R l l.length).getD x.toNat 0 = plc l x 0 := by
  obtain ⟨j, hj, rfl⟩ := List.mem_iff_getElem.1 hx
  rw [nmZ_at hl hn l.length (Nat.le_refl _) j hj hj, plc_nodup hn hj]
/-- The packed code, as either side makes it. -/
def pkC (c : Rc) : Rc := if rcB c then rnC (fun x => plc (tld c) x 0) ((tld c).length : Int) c else zeroRc
theorem pk_same {R : Nat} {c : Rc} (h : rcB c = true) (hR : c.r = R) : rnC (fun x => (nmZ R (tld c) (tld c).length).getD x.toNat 0) ((tld c).length : Int) c = pkC c := by
  obtain ⟨R', e0, h1, h2, h3, h4, h5, h6, hnd, hin, hop, hout, hgd⟩ := rcB_facts h
  have eR : R' = R := by omega
  subst eR
  have hl : ∀ x ∈ tld c, 0 ≤ x ∧ x < (R' : Int) := tlK_in hin hop _ (Nat.le_refl _)
  have hn : (tld c).Nodup := tlK_nodup hnd _
  unfold pkC
  rw [if_pos h]
  refine rnC_cong (fun x hx => nmZ_plc hl hn ?_) (fun x hx => ?_) (fun x hx => nmZ_plc hl hn ?_)
  · exact tlK_mono (k := 0) _ (Nat.zero_le _) hx
  · obtain ⟨t1, t2, t3⟩ := tld_op hx
    exact ⟨nmZ_plc hl hn t1, nmZ_plc hl hn t2, nmZ_plc hl hn t3⟩
  · obtain ⟨j, hj, rfl⟩ := List.mem_iff_getElem.1 hx
    obtain ⟨x0, x1⟩ := hout _ hx
    refine full_told h2 hin hop _ (Nat.le_refl _) _ x0 x1 ?_
    rcases Int.lt_or_le (reg (rcA 46 c c.ops.length) c.o[j]) 0 with h' | h'
    · rw [bad_out hj h'] at h; cases h
    · exact h'
theorem pk_len (c : Rc) : (pkC c).i.length ≤ 1000 ∧ (pkC c).ops.length ≤ 1000 ∧ (pkC c).o.length ≤ 1000 := by
  unfold pkC
  split
  · rename_i h
    obtain ⟨R', e0, h1, h2, h3, h4, h5, h6, _⟩ := rcB_facts h
    obtain ⟨a, b, d⟩ := rnC_lens (fun x => plc (tld c) x 0) ((tld c).length : Int) c
    omega
  · simp [zeroRc]
end Go.Proofs.Ytbbjgcagkmlngab
/- Uses of values as data: the outputs that a value is, the steps that use it, and how many they are. -/
namespace Go.Proofs.Ytbbjgcagkmlngab
open Go.RowKit

/-- On how many sides of a step a value stands. -/
def sid (st : Int × Int) (v : Int) : Nat := (if st.1 = v then 1 else 0) + (if st.2 = v then 1 else 0)
/-- The steps before step k that use a value, once for each use. -/
def usS (s : List (Int × Int)) (v : Int) : Nat → List Int
  | 0 => []
  | k + 1 => usS s v k ++ List.replicate (sid (s.getD k (0, 0)) v) (k : Int)
/-- The outputs before output k that a value is. -/
def usO (o : List Int) (v : Int) : Nat → List Int
  | 0 => []
  | k + 1 => usO o v k ++ (if o.getD k 0 = v then [(k : Int)] else [])
/-- How often a value is used by the first k steps and the first j outputs. -/
def usC (s : List (Int × Int)) (o : List Int) (k j : Nat) (v : Int) : Nat := (usS s v k).length + (usO o v j).length
def cL (s : List (Int × Int)) (o : List Int) (R k j : Nat) : List Int := (List.range R).map fun v : Nat => ((usC s o k j (v : Int) : Nat) : Int)

theorem sid_le (st : Int × Int) (v : Int) : sid st v ≤ 2 := by unfold sid; split <;> split <;> omega
theorem usS_le (s : List (Int × Int)) (v : Int) (k : Nat) : (usS s v k).length ≤ 2 * k := by
  induction k with
  | zero => simp [usS]
  | succ k ih => have := sid_le (s.getD k (0, 0)) v; simp only [usS, List.length_append, List.length_replicate]; omega
theorem usO_le (o : List Int) (v : Int) (k : Nat) : (usO o v k).length ≤ k := by
  induction k with
  | zero => simp [usO]
  | succ k ih => simp only [usO, List.length_append]; split <;> simp <;> omega
theorem usC_le (s : List (Int × Int)) (o : List Int) (k j : Nat) (v : Int) : usC s o k j v ≤ 2 * k + j := by
  have := usS_le s v k
  have := usO_le o v j
  unfold usC
  omega
theorem usS_in (s : List (Int × Int)) (v : Int) (k : Nat) : ∀ x ∈ usS s v k, 0 ≤ x ∧ x < (k : Int) := by
  induction k with
  | zero => intro x hx; simp [usS] at hx
  | succ k ih =>
    intro x hx
    rcases List.mem_append.1 hx with h | h
    · have := ih x h; omega
    · have := (List.mem_replicate.1 h).2; omega
theorem usO_in (o : List Int) (v : Int) (k : Nat) : ∀ x ∈ usO o v k, 0 ≤ x ∧ x < (k : Int) := by
  induction k with
  | zero => intro x hx; simp [usO] at hx
  | succ k ih =>
    intro x hx
    rcases List.mem_append.1 hx with h | h
    · have := ih x h; omega
    · split at h
      · have := List.mem_singleton.1 h; omega
      · simp at h
theorem usO_hit {o : List Int} {v : Int} {k : Nat} (h : o.getD k 0 = v) : usO o v (k + 1) = usO o v k ++ [(k : Int)] := by simp only [usO]; rw [if_pos h]
theorem usO_miss {o : List Int} {v : Int} {k : Nat} (h : ¬ o.getD k 0 = v) : usO o v (k + 1) = usO o v k := by simp only [usO]; rw [if_neg h, List.append_nil]
theorem cL_length (s : List (Int × Int)) (o : List Int) (R k j : Nat) : (cL s o R k j).length = R := by simp [cL]
theorem cL_at (s : List (Int × Int)) (o : List Int) {R a : Nat} (k j : Nat) (ha : a < R) : (cL s o R k j).getD a 0 = ((usC s o k j (a : Int) : Nat) : Int) := by simp [cL, ha]
theorem cL_zero (s : List (Int × Int)) (o : List Int) (R : Nat) : cL s o R 0 0 = List.replicate R 0 := by
  apply List.ext_getElem?
  intro j
  by_cases hj : j < R <;> simp [cL, hj, usC, usS, usO]
theorem usC_step {s : List (Int × Int)} (o : List Int) {k : Nat} (j : Nat) (v : Int) : usC s o (k + 1) j v = usC s o k j v + sid (s.getD k (0, 0)) v := by
  simp only [usC, usS, List.length_append, List.length_replicate]
  omega
theorem usC_out (s : List (Int × Int)) (o : List Int) (k j : Nat) (v : Int) : usC s o k (j + 1) v = usC s o k j v + (if o.getD j 0 = v then 1 else 0) := by
  simp only [usC, usO, List.length_append]
  split <;> simp <;> omega
theorem cL_mid {s : List (Int × Int)} (o : List Int) {R k a : Nat} (ha : a < R) :
    (cL s o R k 0).set a ((usC s o k 0 (a : Int) : Nat) + 1) = (List.range R).map fun v : Nat => (((usC s o k 0 (v : Int) + if v = a then 1 else 0 : Nat)) : Int) := by
  apply List.ext_getElem?
  intro j
  by_cases hj : j < R
  · by_cases hja : a = j
    · subst hja
      rw [List.getElem?_set_self (by rw [cL_length]; exact ha)]
      simp [ha]
    · rw [List.getElem?_set_ne hja]
      have : ¬ j = a := fun h => hja h.symm
      simp [cL, hj, this]
  · rw [List.getElem?_eq_none (by simp [cL]; omega), List.getElem?_eq_none (by simp; omega)]
/-- Behind a step: both sides are counted. -/
theorem cL_step {s : List (Int × Int)} (o : List Int) {R k a b : Nat} (ha : a < R) (hb : b < R) (hs : s.getD k (0, 0) = ((a : Int), (b : Int))) :
    ((cL s o R k 0).set a ((usC s o k 0 (a : Int) : Nat) + 1)).set b ((usC s o k 0 (b : Int) + (if b = a then 1 else 0) : Nat) + 1) = cL s o R (k + 1) 0 := by
  rw [cL_mid o ha]
  apply List.ext_getElem?
  intro j
  by_cases hj : j < R
  · have hst := usC_step (s := s) o (k := k) 0 (j : Int)
    rw [hs] at hst
    have e1 : (((a : Int), (b : Int)).1 = (j : Int)) = (j = a) := by apply propext; simp; omega
    have e2 : (((a : Int), (b : Int)).2 = (j : Int)) = (j = b) := by apply propext; simp; omega
    unfold sid at hst
    simp only [e1, e2] at hst
    by_cases hjb : b = j
    · subst hjb
      rw [List.getElem?_set_self (by simpa using hb)]
      simp only [cL, List.getElem?_map, List.getElem?_range hb, Option.map_some, hst]
      simp
      omega
    · rw [List.getElem?_set_ne hjb]
      have hjb' : ¬ j = b := fun h => hjb h.symm
      simp only [cL, List.getElem?_map, List.getElem?_range hj, Option.map_some, hst, if_neg hjb']
      simp
  · rw [List.getElem?_eq_none (by simp; omega), List.getElem?_eq_none (by simp [cL]; omega)]
theorem cL_mid_at {s : List (Int × Int)} (o : List Int) {R k a b : Nat} (ha : a < R) (hb : b < R) :
    ((cL s o R k 0).set a ((usC s o k 0 (a : Int) : Nat) + 1)).getD b 0 = ((usC s o k 0 (b : Int) + (if b = a then 1 else 0) : Nat) : Int) := by
  rw [cL_mid o ha]
  simp [hb]
/-- Behind an output. -/
theorem cL_out (s : List (Int × Int)) {o : List Int} {R j v : Nat} (k : Nat) (hv : v < R) (ho : o.getD j 0 = (v : Int)) :
    (cL s o R k j).set v ((usC s o k j (v : Int) : Nat) + 1) = cL s o R k (j + 1) := by
  apply List.ext_getElem?
  intro i
  by_cases hi : i < R
  · have hst := usC_out s o k j (i : Int)
    rw [ho] at hst
    by_cases hiv : v = i
    · subst hiv
      rw [List.getElem?_set_self (by rw [cL_length]; exact hv)]
      simp [cL, hi, hst]
    · rw [List.getElem?_set_ne hiv]
      have h1 : ¬ (v : Int) = (i : Int) := by omega
      rw [if_neg h1] at hst
      simp [cL, hi, hst]
  · rw [List.getElem?_eq_none (by rw [List.length_set, cL_length]; omega), List.getElem?_eq_none (by rw [cL_length]; omega)]

theorem mem_usO {o : List Int} {v x : Int} {k : Nat} : x ∈ usO o v k ↔ ∃ i : Nat, i < k ∧ x = (i : Int) ∧ o.getD i 0 = v := by
  induction k with
  | zero => simp [usO]
  | succ k ih =>
    simp only [usO]
    rw [List.mem_append, ih]
    constructor
    · rintro (⟨i, h1, h2, h3⟩ | h)
      · exact ⟨i, by omega, h2, h3⟩
      · split at h
        · rename_i h4; exact ⟨k, by omega, List.mem_singleton.1 h, h4⟩
        · simp at h
    · rintro ⟨i, h1, h2, h3⟩
      rcases Nat.lt_or_ge i k with h4 | h4
      · exact .inl ⟨i, h4, h2, h3⟩
      · have e : i = k := by omega
        subst e
        right
        rw [if_pos h3]
        exact List.mem_singleton.2 h2
theorem mem_usS {s : List (Int × Int)} {v x : Int} {k : Nat} : x ∈ usS s v k ↔ ∃ i : Nat, i < k ∧ x = (i : Int) ∧ ((s.getD i (0, 0)).1 = v ∨ (s.getD i (0, 0)).2 = v) := by
  have key : ∀ st : Int × Int, sid st v ≠ 0 ↔ (st.1 = v ∨ st.2 = v) := by
    intro st
    unfold sid
    by_cases h1 : st.1 = v <;> by_cases h2 : st.2 = v <;> simp [h1, h2]
  induction k with
  | zero => simp [usS]
  | succ k ih =>
    simp only [usS]
    rw [List.mem_append, List.mem_replicate, key]
    constructor
    · rintro (h | ⟨h1, h2⟩)
      · obtain ⟨i, h1, h2, h3⟩ := ih.1 h
        exact ⟨i, by omega, h2, h3⟩
      · exact ⟨k, by omega, h2, h1⟩
    · rintro ⟨i, h1, h2, h3⟩
      rcases Nat.lt_or_ge i k with h4 | h4
      · exact .inl (ih.2 ⟨i, h4, h2, h3⟩)
      · have e : i = k := by omega
        subst e
        exact .inr ⟨h3, h2⟩

/-- The box of uses is kept by an append to an own row of numbers. -/
theorem us_kept {w w3 : World} {B g n : Nat} {t : TypeId} {v : Value} {cs : Array Value} {xs : List Value} {o : Obj} (hb : w.heap[g]? = some (.cells cs t (0, 0))) (ho : w.ownsRow B 3 1 v n xs)
    (hg : (w.alloc o).grownBy w3 v.ownBlock) (ht : t ≠ 3 := by decide) : w3.heap[g]? = some (.cells cs t (0, 0)) := by
  have hgl : g < w.heap.size := (Array.getElem?_eq_some_iff.1 hb).1
  have hbA : (w.alloc o).heap[g]? = _ := (Below.heap_alloc w o g hgl).trans hb
  exact (hg.block g (by simp; omega) (own_ne_blk (World.ownsRow.alloc ho o) hbA ht)).trans hbA
theorem us_cells {w : World} {g : Nat} {a b : Value} {t : TypeId} (h : w.heap[g]? = some (.cells #[a, b] t (0, 0))) :
    w.cell? ⟨g, 0, none⟩ = some a ∧ w.cell? ⟨g, 1, none⟩ = some b ∧ w.frozen? ⟨g, 0, none⟩ = false ∧ w.frozen? ⟨g, 1, none⟩ = false := by
  refine ⟨?_, ?_, frozen_of_row w g 0 _ _ h, frozen_of_row w g 1 _ _ h⟩
  · rw [cell_of_row w g 0 _ _ (0, 0) h]; rfl
  · rw [cell_of_row w g 1 _ _ (0, 0) h]; rfl
theorem own_heap {w : World} {B sz n c g : Nat} {e : TypeId} {xs : List Value} (h : w.ownsRow B e sz (.slice (some ⟨g, 0, none⟩) n c) n xs) : ∃ cs, w.heap[g]? = some (.cells cs e (0, 0)) := by
  rcases h.2 with ⟨h0, _⟩ | ⟨g', cap, cur, hv, _, hg, _⟩
  · simp at h0
  · simp only [Value.slice.injEq, Option.some.injEq, Addr.mk.injEq] at hv
    obtain ⟨⟨rfl, _⟩, _⟩ := hv
    exact ⟨_, hg⟩
/-- How often each value of a plan is used. -/
def usL (p : Pl) : List Int := cL p.s p.o (p.n.toNat + p.s.length) p.s.length p.o.length
/-- A store into an own row of integers. -/
theorem OwI.set {w : World} {B g a R c : Nat} {l : List Int} (h : w.ownsRow B 3 1 (.slice (some ⟨g, 0, none⟩) R c) R (l.map I)) (x : Int) :
    (w.setCell ⟨g, a, none⟩ (.int .i64 x)).ownsRow B 3 1 (.slice (some ⟨g, 0, none⟩) R c) R ((l.set a x).map I) := by
  have h1 := (h.stored a (.int .i64 x)).1
  rw [List.map_set]
  exact h1
theorem OwI.cellD {w : World} {B g a R c : Nat} {l : List Int} (h : w.ownsRow B 3 1 (.slice (some ⟨g, 0, none⟩) R c) R (l.map I)) (ha : a < R) : w.cell? ⟨g, a, none⟩ = some (.int .i64 (l.getD a 0)) := by
  have hl : l.length = R := by have := h.1; simpa using this
  rw [h.cellAt _ (by omega)]
  simp [I, hl, ha]
end Go.Proofs.Ytbbjgcagkmlngab
/- Chains as data: strictly rising lists, the sums of a number, the steps of a chain. -/
namespace Go.Proofs.Ytbbjgcagkmlngab

/-- Strictly rising. -/
def Asc (l : List Int) : Prop := ∀ i j, i < j → j < l.length → l.getD i 0 < l.getD j 0
/-- What a sum of the number k with the greater index j is: index i. -/
def prsI (l : List Int) (k j n : Nat) : List (Int × Int) := ((List.range n).filter fun i : Nat => l.getD i 0 + l.getD j 0 == l.getD k 0).map fun i : Nat => ((i : Int), (j : Int))
def prsJ (l : List Int) (k j : Nat) : List (Int × Int) := prsI l k j (j + 1)
def prs (l : List Int) (k m : Nat) : List (Int × Int) := (List.range m).flatMap (prsJ l k)

theorem prsI_zero (l : List Int) (k j : Nat) : prsI l k j 0 = [] := rfl
theorem prsI_hit {l : List Int} {k j n : Nat} (h : l.getD n 0 + l.getD j 0 = l.getD k 0) : prsI l k j (n + 1) = prsI l k j n ++ [((n : Int), (j : Int))] := by
  unfold prsI
  have e : (l.getD n 0 + l.getD j 0 == l.getD k 0) = true := by simpa only [beq_iff_eq] using h
  rw [List.range_succ, List.filter_append, List.map_append]
  simp only [List.filter_cons, List.filter_nil, e]
  rfl
theorem prsI_miss {l : List Int} {k j n : Nat} (h : ¬ l.getD n 0 + l.getD j 0 = l.getD k 0) : prsI l k j (n + 1) = prsI l k j n := by
  unfold prsI
  have e : (l.getD n 0 + l.getD j 0 == l.getD k 0) = false := by simpa only [beq_eq_false_iff_ne] using h
  rw [List.range_succ, List.filter_append, List.map_append]
  simp only [List.filter_cons, List.filter_nil, e]
  simp
theorem prs_zero (l : List Int) (k : Nat) : prs l k 0 = [] := rfl
theorem prs_succ (l : List Int) (k m : Nat) : prs l k (m + 1) = prs l k m ++ prsJ l k m := by
  unfold prs
  rw [List.range_succ, List.flatMap_append]
  simp
theorem prsI_le (l : List Int) (k j n : Nat) : (prsI l k j n).length ≤ n := by
  unfold prsI
  rw [List.length_map]
  exact Nat.le_trans (List.length_filter_le _ _) (by simp)

theorem take_succ_getD {l : List Int} {k : Nat} (hk : k < l.length) : l.take (k + 1) = l.take k ++ [l.getD k 0] := by
  rw [List.take_succ_eq_append_getElem hk]
  simp [hk]
theorem mem_take_getD {l : List Int} {k : Nat} {x : Int} (hk : k ≤ l.length) : x ∈ l.take k ↔ ∃ i, i < k ∧ l.getD i 0 = x := by
  rw [List.mem_iff_getElem]
  constructor
  · rintro ⟨i, hi, rfl⟩
    have h1 : i < k := by rw [List.length_take] at hi; omega
    refine ⟨i, h1, ?_⟩
    rw [List.getElem_take]
    simp [show i < l.length by omega]
  · rintro ⟨i, hi, rfl⟩
    refine ⟨i, by rw [List.length_take]; omega, ?_⟩
    rw [List.getElem_take]
    simp [show i < l.length by omega]
/-- In a strictly rising list the index of x is the number of lesser numbers. -/
theorem count_at {l : List Int} {x : Int} : ∀ m, m ≤ l.length →
    (∀ i, i < m → l.getD i 0 < x) → (l.take m).countP (fun y => decide (y < x)) = m := by
  intro m
  induction m with
  | zero => intro _ _; rfl
  | succ m ih =>
    intro hm h
    rw [take_succ_getD (by omega), List.countP_append, ih (by omega) (fun i hi => h i (by omega))]
    have e2 : decide (l.getD m 0 < x) = true := by simpa only [decide_eq_true_eq] using h m (by omega)
    simp only [List.countP_cons, List.countP_nil, e2]
    simp
theorem find_eq {l : List Int} (ha : Asc l) (x : Int) : ∀ m, m ≤ l.length →
    ((List.range m).filter fun i => l.getD i 0 == x) = if x ∈ l.take m then [(l.take m).countP (fun y => decide (y < x))] else [] := by
  intro m
  induction m with
  | zero => intro _; simp
  | succ m ih =>
    intro hm
    rw [List.range_succ, List.filter_append, ih (by omega), take_succ_getD (by omega)]
    by_cases hx : l.getD m 0 = x
    · have hnot : ¬ x ∈ l.take m := by
        rw [mem_take_getD (by omega)]
        rintro ⟨i, hi, he⟩
        have := ha i m hi (by omega)
        omega
      have hc : (l.take m).countP (fun y => decide (y < x)) = m := count_at m (by omega) fun i hi => by have := ha i m hi (by omega); omega
      rw [if_neg hnot, List.countP_append, hc]
      rw [if_pos (by rw [hx]; simp)]
      have e1 : (l.getD m 0 == x) = true := by simpa using hx
      have e2 : decide (l.getD m 0 < x) = false := by simp only [decide_eq_false_iff_not]; omega
      simp only [List.filter_cons, List.filter_nil, e1, List.countP_cons, List.countP_nil, e2]
      simp
    · by_cases hin : x ∈ l.take m
      · rw [if_pos hin, if_pos (List.mem_append_left _ hin), List.countP_append]
        obtain ⟨i, hi, he⟩ := (mem_take_getD (by omega)).1 hin
        have := ha i m hi (by omega)
        have h1 : ¬ l.getD m 0 < x := by omega
        have h2 : (l.getD m 0 == x) = false := by simpa using hx
        simp only [List.filter_cons, h2, List.countP_cons, List.countP_nil, h1, List.filter_nil]
        simp
      · have h2 : (l.getD m 0 == x) = false := by simpa using hx
        have hnot : ¬ x ∈ l.take m ++ [l.getD m 0] := by
          intro h
          rcases List.mem_append.1 h with h | h
          · exact hin h
          · exact hx (List.mem_singleton.1 h).symm
        rw [if_neg hin, if_neg hnot]
        simp only [List.filter_cons, h2, List.filter_nil]
        simp
theorem prsJ_eq {l : List Int} (ha : Asc l) (k j : Nat) (hj : j < l.length) :
    prsJ l k j = if l.getD k 0 - l.getD j 0 ∈ l.take (j + 1) then [((((l.take (j + 1)).countP (fun y => decide (y < l.getD k 0 - l.getD j 0)) : Nat) : Int), (j : Int))] else [] := by
  unfold prsJ prsI
  have e : (fun i : Nat => l.getD i 0 + l.getD j 0 == l.getD k 0) = fun i : Nat => l.getD i 0 == l.getD k 0 - l.getD j 0 := by
    funext i
    rw [Bool.eq_iff_iff]
    simp only [beq_iff_eq]
    omega
  rw [e, find_eq ha _ (j + 1) (by omega)]
  split <;> rfl
theorem prsJ_le {l : List Int} (ha : Asc l) (k j : Nat) (hj : j < l.length) : (prsJ l k j).length ≤ 1 := by
  rw [prsJ_eq ha k j hj]
  split <;> simp
theorem prs_le {l : List Int} (ha : Asc l) (k : Nat) : ∀ m, m ≤ l.length → (prs l k m).length ≤ m := by
  intro m
  induction m with
  | zero => intro _; simp [prs_zero]
  | succ m ih =>
    intro h
    rw [prs_succ, List.length_append]
    have := ih (by omega)
    have := prsJ_le ha k m (by omega)
    omega
/-- The parts of a sum: 0 ≤ A ≤ B < m. -/
theorem prs_mem {l : List Int} {k : Nat} : ∀ m, ∀ p ∈ prs l k m, ∃ i j : Nat, p = ((i : Int), (j : Int)) ∧ i ≤ j ∧ j < m ∧ l.getD i 0 + l.getD j 0 = l.getD k 0 := by
  intro m
  induction m with
  | zero => intro p hp; simp [prs_zero] at hp
  | succ m ih =>
    intro p hp
    rw [prs_succ] at hp
    rcases List.mem_append.1 hp with h | h
    · obtain ⟨i, j, e, h1, h2, h3⟩ := ih p h
      exact ⟨i, j, e, h1, by omega, h3⟩
    · unfold prsJ prsI at h
      simp only [List.mem_map, List.mem_filter, List.mem_range, beq_iff_eq] at h
      obtain ⟨i, ⟨hi, he⟩, rfl⟩ := h
      exact ⟨i, m, rfl, by omega, by omega, he⟩

/-- Rising, and within lo..hi, up to index k. -/
def risB (l : List Int) (lo hi : Int) (k : Nat) : Bool := (List.range k).all fun i => inB (l.getD i 0) lo hi && (decide (i = 0) || decide (l.getD (i - 1) 0 < l.getD i 0))
theorem risB_succ (l : List Int) (lo hi : Int) (k : Nat) : risB l lo hi (k + 1) = (risB l lo hi k && (inB (l.getD k 0) lo hi && (decide (k = 0) || decide (l.getD (k - 1) 0 < l.getD k 0)))) := by
  unfold risB
  rw [List.range_succ, List.all_append]
  simp
theorem risB_false {l : List Int} {lo hi : Int} {k : Nat} (n : Nat) (hk : k < n) (h : (inB (l.getD k 0) lo hi && (decide (k = 0) || decide (l.getD (k - 1) 0 < l.getD k 0))) = false) : risB l lo hi n = false := by
  unfold risB
  rw [List.all_eq_false]
  exact ⟨k, List.mem_range.2 hk, by rw [h]; simp⟩
theorem risB_asc {l : List Int} {lo hi : Int} : ∀ n, risB l lo hi n = true → n ≤ l.length → (∀ i, i < n → lo ≤ l.getD i 0 ∧ l.getD i 0 ≤ hi) ∧ ∀ i j, i < j → j < n → l.getD i 0 < l.getD j 0 := by
  intro n
  induction n with
  | zero => intro _ _; exact ⟨fun i h => absurd h (by omega), fun i j _ h => absurd h (by omega)⟩
  | succ n ih =>
    intro h hn
    rw [risB_succ] at h
    simp only [Bool.and_eq_true, Bool.or_eq_true, decide_eq_true_eq, inB] at h
    obtain ⟨h1, ⟨h2, h3⟩, h4⟩ := h
    obtain ⟨i1, i2⟩ := ih h1 (by omega)
    refine ⟨fun i hi => ?_, fun i j hij hj => ?_⟩
    · rcases Nat.lt_or_eq_of_le (Nat.le_of_lt_succ hi) with h | rfl
      · exact i1 i h
      · exact ⟨h2, h3⟩
    · rcases Nat.lt_or_eq_of_le (Nat.le_of_lt_succ hj) with h | rfl
      · exact i2 i j hij h
      · rcases h4 with h4 | h4
        · omega
        · rcases Nat.lt_or_eq_of_le (Nat.le_sub_one_of_lt hij) with h5 | rfl
          · have := i2 i (j - 1) h5 (by omega)
            omega
          · exact h4
/-- All of a chain but the sums. -/
def chB (l : List Int) : Bool := inB (l.length : Nat) 1 41 && (l.getD 0 0 == 1) && risB l 1 1000000 l.length
def sumsB (l : List Int) (k : Nat) : Bool := (List.range k).all fun i => decide (i = 0) || !(prs l i i).isEmpty
def chG (l : List Int) : Bool := chB l && sumsB l l.length
theorem sumsB_succ (l : List Int) (k : Nat) : sumsB l (k + 1) = (sumsB l k && (decide (k = 0) || !(prs l k k).isEmpty)) := by
  unfold sumsB
  rw [List.range_succ, List.all_append]
  simp
theorem sumsB_false {l : List Int} {k : Nat} (n : Nat) (hk : k < n) (h0 : k ≠ 0) (h : prs l k k = []) : sumsB l n = false := by
  unfold sumsB
  rw [List.all_eq_false]
  exact ⟨k, List.mem_range.2 hk, by simp [h, h0]⟩
/-- The last sum of each number from 1 to k - 1. -/
def stepsK (l : List Int) (k : Nat) : List (Int × Int) := (List.range (k - 1)).map fun i => (prs l (i + 1) (i + 1)).getLastD (0, 0)
theorem stepsK_succ (l : List Int) (k : Nat) (hk : 1 ≤ k) : stepsK l (k + 1) = stepsK l k ++ [(prs l k k).getLastD (0, 0)] := by
  unfold stepsK
  rw [show k + 1 - 1 = (k - 1) + 1 by omega, List.range_succ, List.map_append]
  simp [show k - 1 + 1 = k by omega]
theorem stepsK_length (l : List Int) (k : Nat) : (stepsK l k).length = k - 1 := by simp [stepsK]
theorem stepsK_one (l : List Int) : stepsK l 1 = [] := rfl

structure Chn (l : List Int) : Prop where
  pos : 1 ≤ l.length
  most : l.length ≤ 41
  one : l.getD 0 0 = 1
  rng : ∀ i, i < l.length → 1 ≤ l.getD i 0 ∧ l.getD i 0 ≤ 1000000
  asc : Asc l
theorem chn_of {l : List Int} (h : chB l = true) : Chn l := by
  unfold chB at h
  simp only [Bool.and_eq_true, inB, decide_eq_true_eq, beq_iff_eq] at h
  obtain ⟨⟨⟨h1, h2⟩, h3⟩, h4⟩ := h
  obtain ⟨h5, h6⟩ := risB_asc l.length h4 (Nat.le_refl _)
  exact ⟨by omega, by omega, h3, h5, h6⟩
theorem risB_of {l : List Int} {lo hi : Int} : ∀ n, (∀ i, i < n → lo ≤ l.getD i 0 ∧ l.getD i 0 ≤ hi) → (∀ i, i + 1 < n → l.getD i 0 < l.getD (i + 1) 0) → risB l lo hi n = true := by
  intro n
  induction n with
  | zero => intro _ _; rfl
  | succ n ih =>
    intro h1 h2
    rw [risB_succ, ih (fun i hi => h1 i (by omega)) (fun i hi => h2 i (by omega))]
    have := h1 n (by omega)
    simp only [Bool.true_and, Bool.and_eq_true, Bool.or_eq_true, decide_eq_true_eq, inB]
    refine ⟨this, ?_⟩
    rcases Nat.eq_zero_or_pos n with h | h
    · exact .inl h
    · right
      have := h2 (n - 1) (by omega)
      rwa [show n - 1 + 1 = n by omega] at this
theorem chn_chB {l : List Int} (h : Chn l) : chB l = true := by
  have h3 := h.one
  have h1 := h.pos
  have h2 := h.most
  unfold chB
  rw [risB_of l.length h.rng fun i hi => h.asc i (i + 1) (by omega) hi]
  simp only [Bool.and_true, Bool.and_eq_true, inB, decide_eq_true_eq, beq_iff_eq]
  exact ⟨⟨by omega, by omega⟩, h3⟩
theorem chG_chn {l : List Int} (h : chG l = true) : Chn l := chn_of (by unfold chG at h; simp only [Bool.and_eq_true] at h; exact h.1)
theorem chG_sums {l : List Int} (h : chG l = true) : ∀ k, 1 ≤ k → k < l.length → prs l k k ≠ [] := by
  intro k h1 h2 he
  unfold chG at h
  rw [sumsB_false l.length h2 (by omega) he] at h
  simp at h
theorem getLastD_snoc {α : Type} (l : List α) (a d : α) : (l ++ [a]).getLastD d = a := by simp
theorem last_form {l : List (Int × Int)} (h : l ≠ []) : l.getLastD (0, 0) = l[l.length - 1]'(by have := List.length_pos_iff.2 h; omega) := by
  rw [List.getLastD_eq_getLast?, List.getLast?_eq_getElem?]
  have := List.length_pos_iff.2 h
  simp [show l.length - 1 < l.length by omega]
end Go.Proofs.Ytbbjgcagkmlngab
/- The model's small functions of chains: rising lists, the sums of a number. -/
namespace Go.Proofs.Ytbbjgcagkmlngab
open Go.RowKit

/-- The cell of element k. -/
theorem Rd.intD {w : World} {B : Nat} {A : Option Addr} {l : List Int} (h : Rd w B 1 A l.length (l.map I)) {k : Nat} (hk : k < l.length) :
    ∃ b off, A = some ⟨b, off, none⟩ ∧ b < B ∧ w.cell? ⟨b, off + k, none⟩ = some (.int .i64 (l.getD k 0)) := by
  obtain ⟨b, off, e, hb, hc⟩ := h.int hk
  exact ⟨b, off, e, hb, by rw [hc]; simp [hk]⟩
/-- All cells of a list that is not empty. -/
theorem Rd.cells {w : World} {B : Nat} {A : Option Addr} {l : List Int} (h : Rd w B 1 A l.length (l.map I)) (h0 : 0 < l.length) :
    ∃ b off, A = some ⟨b, off, none⟩ ∧ b < B ∧ ∀ k, k < l.length → w.cell? ⟨b, off + k, none⟩ = some (.int .i64 (l.getD k 0)) := by
  obtain ⟨b, off, e, hb, hc⟩ := h.2 (by omega)
  refine ⟨b, off, e, hb, fun k hk => ?_⟩
  rw [hc k (by omega)]
  simp [I, hk]

end Go.Proofs.Ytbbjgcagkmlngab
/- The model's sums of a number of a list. -/
namespace Go.Proofs.Ytbbjgcagkmlngab
open Go.RowKit

theorem OwS.nil (w : World) (B : Nat) : OwS w B (.slice none 0 0) [] := World.ownsRow_nil _ _ _ _
theorem OwS.below {w w' : World} {B : Nat} {v : Value} {s : List (Int × Int)} (h : OwS w B v s) (hb : Below w.heap.size w w') : OwS w' B v s := own_below h hb
theorem OwS.base {w : World} {B B' : Nat} {v : Value} {s : List (Int × Int)} (h : OwS w B v s) (hB : B' ≤ B) : OwS w B' v s := own_base h hB
theorem OwS.rd {w : World} {B : Nat} {A : Option Addr} {c : Nat} {s : List (Int × Int)} (h : OwS w B (.slice A s.length c) s) : Rd w w.heap.size 2 A s.length (fl s) := Rd.of_own h

end Go.Proofs.Ytbbjgcagkmlngab
/- Whether a list is a chain, and its steps, by the model. -/
namespace Go.Proofs.Ytbbjgcagkmlngab
open Go.RowKit

theorem sumsB_one (l : List Int) : sumsB l 1 = true := rfl
theorem isEmpty_ne {α : Type} {l : List α} (h : l ≠ []) : l.isEmpty = false := by cases l with | nil => exact absurd rfl h | cons => rfl

end Go.Proofs.Ytbbjgcagkmlngab
/- The steps of a chain, by the model. -/
namespace Go.Proofs.Ytbbjgcagkmlngab
open Go.RowKit

/-- The last element of an own row of steps. -/
theorem OwS.last {w : World} {B : Nat} {A : Option Addr} {c q : Nat} {P : List (Int × Int)} (h : OwS w B (.slice A (q + 1) c) P) (hq : P.length = q + 1) :
    ∃ g x y, A = some ⟨g, 0, none⟩ ∧ B ≤ g ∧ g < w.heap.size ∧ w.cell? ⟨g, q * 2, none⟩ = some (.int .i64 x) ∧ w.cell? ⟨g, q * 2 + 1, none⟩ = some (.int .i64 y) ∧ P.getLastD (0, 0) = (x, y) := by
  unfold OwS at h
  rw [hq] at h
  obtain ⟨g, rfl, hB, hg, hc, _⟩ := own_at h (by omega)
  have hlt : q < P.length := by omega
  obtain ⟨f1, f2⟩ := fl_at hlt
  refine ⟨g, P[q].1, P[q].2, rfl, hB, hg, by rw [hc _ (by omega), f1], by rw [hc _ (by omega), f2], ?_⟩
  have hne : P ≠ [] := by intro h; rw [h] at hq; simp at hq
  rw [last_form hne]
  simp [hq]

end Go.Proofs.Ytbbjgcagkmlngab
/- The program's search in a rising list, and the sums of a number. -/
namespace Go.Proofs.Ytbbjgcagkmlngab
open Go.RowKit

/-- How many numbers of the list are less than x. -/
def cnt (l : List Int) (x : Int) : Nat := l.countP fun y => decide (y < x)
theorem cnt_at {l : List Int} {x : Int} {i : Nat} (hi : i ≤ l.length) (h1 : ∀ t, t < i → l.getD t 0 < x) (h2 : ∀ t, i ≤ t → t < l.length → x ≤ l.getD t 0) : cnt l x = i := by
  unfold cnt
  rw [← List.take_append_drop i l, List.countP_append, count_at i hi h1]
  have : (l.drop i).countP (fun y => decide (y < x)) = 0 := by
    rw [List.countP_eq_zero]
    intro y hy
    obtain ⟨j, hj, rfl⟩ := List.mem_iff_getElem.1 hy
    rw [List.length_drop] at hj
    have := h2 (i + j) (by omega) (by omega)
    rw [List.getElem_drop]
    simp only [decide_eq_true_eq]
    have e : l.getD (i + j) 0 = l[i + j]'(by omega) := by simp [show i + j < l.length by omega]
    omega
  omega
theorem mem_at {l : List Int} (ha : Asc l) {x : Int} {i : Nat} (hi : i ≤ l.length) (h1 : ∀ t, t < i → l.getD t 0 < x) (h2 : ∀ t, i ≤ t → t < l.length → x ≤ l.getD t 0) : decide (x ∈ l) = decide (i < l.length ∧ l.getD i 0 = x) := by
  rw [decide_eq_decide]
  have e := mem_take_getD (l := l) (k := l.length) (x := x) (Nat.le_refl _)
  rw [List.take_length] at e
  rw [e]
  constructor
  · rintro ⟨j, hj, rfl⟩
    rcases Nat.lt_trichotomy j i with h | rfl | h
    · have := h1 j h; omega
    · exact ⟨hj, rfl⟩
    · have := h2 i (Nat.le_refl _) (by omega)
      have := ha i j h hj
      omega
  · rintro ⟨h, rfl⟩
    exact ⟨i, h, rfl⟩
theorem asc_le {l : List Int} (ha : Asc l) {i j : Nat} (h : i ≤ j) (hj : j < l.length) : l.getD i 0 ≤ l.getD j 0 := by
  rcases Nat.lt_or_eq_of_le h with h | rfl
  · exact Int.le_of_lt (ha i j h hj)
  · exact Int.le_refl _

end Go.Proofs.Ytbbjgcagkmlngab
/- The program's sums of a number. -/
namespace Go.Proofs.Ytbbjgcagkmlngab
open Go.RowKit

theorem Rd.take {w : World} {B : Nat} {A : Option Addr} {l : List Int} (h : Rd w B 1 A l.length (l.map I)) {n : Nat} (hn : n ≤ l.length) : Rd w B 1 A n ((l.take n).map I) := by
  refine ⟨by simp; omega, fun h0 => ?_⟩
  obtain ⟨b, off, e, hb, hc⟩ := h.2 (by omega)
  refine ⟨b, off, e, hb, fun j hj => ?_⟩
  rw [hc j (by omega), List.map_take, List.getElem?_take]
  simp [show j < n by omega]
theorem asc_take {l : List Int} (h : Asc l) (n : Nat) : Asc (l.take n) := by
  intro i j hij hj
  rw [List.length_take] at hj
  have e : ∀ t, t < n → t < l.length → (l.take n).getD t 0 = l.getD t 0 := fun t h1 h2 => by simp [h1, h2]
  rw [e i (by omega) (by omega), e j (by omega) (by omega)]
  exact h i j hij (by omega)

end Go.Proofs.Ytbbjgcagkmlngab
/- Whether a list is a chain, and its steps, by the program. -/
namespace Go.Proofs.Ytbbjgcagkmlngab
open Go.RowKit

/-- The steps that are answered: of no chain none. -/
def chS (l : List Int) : List (Int × Int) := if chG l then stepsK l l.length else []
theorem chS_true {l : List Int} (h : chG l = true) : chS l = stepsK l l.length := by unfold chS; rw [if_pos h]
theorem chS_false {l : List Int} (h : chG l = false) : chS l = [] := by unfold chS; rw [h]; rfl
theorem chS_le (l : List Int) : (chS l).length ≤ 1000 := by
  unfold chS
  split
  · rename_i h
    rw [stepsK_length]
    have := (chG_chn h).most
    omega
  · simp
theorem may_false {l : List Int} {k : Nat} (hk : k + 1 < l.length) (h : l.getD (k + 1) 0 ≤ l.getD k 0) : chB l = false := by
  unfold chB
  rw [risB_false (l := l) (lo := 1) (hi := 1000000) (k := k + 1) l.length hk (by
    rw [show k + 1 - 1 = k from rfl]
    have h1 : decide (l.getD k 0 < l.getD (k + 1) 0) = false := by rw [decide_eq_false_iff_not]; omega
    rw [h1]
    simp), Bool.and_false]
theorem may_end {l : List Int} (h1 : 1 ≤ l.length) (h2 : l.length ≤ 41) (h3 : l.getD 0 0 = 1) (h : ∀ i, i + 1 < l.length → l.getD i 0 < l.getD (i + 1) 0) : chB l = decide (l.getD (l.length - 1) 0 ≤ 1000000) := by
  have hup : ∀ j, j < l.length → ∀ i, i ≤ j → l.getD i 0 ≤ l.getD j 0 := by
    intro j
    induction j with
    | zero => intro _ i hi; rw [show i = 0 by omega]; exact Int.le_refl _
    | succ j ih =>
      intro hj i hi
      rcases Nat.lt_or_eq_of_le hi with hi | rfl
      · have := ih (by omega) i (by omega)
        have := h j hj
        omega
      · exact Int.le_refl _
  by_cases hle : l.getD (l.length - 1) 0 ≤ 1000000
  · rw [decide_eq_true hle]
    unfold chB
    rw [risB_of l.length (fun i hi => ⟨by have := hup i hi 0 (by omega); rw [h3] at this; exact this, by have := hup (l.length - 1) (by omega) i (by omega); omega⟩) h, h3]
    unfold inB
    rw [decide_eq_true (show (1 : Int) ≤ ((l.length : Nat) : Int) by omega), decide_eq_true (show ((l.length : Nat) : Int) ≤ 41 by omega)]
    rfl
  · rw [decide_eq_false hle]
    unfold chB
    rw [risB_false (l := l) (lo := 1) (hi := 1000000) (k := l.length - 1) l.length (by omega) (by
      unfold inB
      rw [decide_eq_false hle]
      simp), Bool.and_false]

/-- The last number of a list. -/
theorem endOf_any (B : Nat) (A : Option Addr) (c : Nat) (l : List Int) (w : World) (h1 : 1 ≤ l.length) (hl : l.length ≤ 1048576) (hr : Rd w B 1 A l.length (l.map I)) :
    Calls Try.prog 117 #[.slice A l.length c] w fun e w' => e = .returned (.int .i64 (l.getD (l.length - 1) 0)) ∧ w' = w := by
  obtain ⟨b, off, rfl, hbB, hc⟩ := hr.cells (by omega)
  have c1 := hc (l.length - 1) (by omega)
  obtain ⟨N, hN⟩ : ∃ N, l.length = N + 1 := ⟨l.length - 1, by omega⟩
  have hsub : IntKind.i64.wrap ((l.length : Int) - 1) = (N : Int) := by rw [IntWalk.i64_in _ (by omega)]; omega
  rw [show l.length - 1 = N by omega] at c1 ⊢
  have i1 : (N : Int) < (l.length : Int) := by omega
  obtain ⟨y, hy⟩ : ∃ y, l.getD N 0 = y := ⟨_, rfl⟩
  rw [hy] at c1 ⊢
  clear hc hr hy hN
  go_enter Try.func117, Try.ntmps117
  go_wp2
  go_ret
  exact ⟨rfl, rfl⟩

end Go.Proofs.Ytbbjgcagkmlngab
/- Copies of lists of integers. -/
namespace Go.Proofs.Ytbbjgcagkmlngab
open Go.RowKit

theorem eq_nil_I (A : Option Addr) (n c : Nat) (W : World) : (binOp .eql 22 (.slice A n c) (.slice none 0 0)).run Try.prog W = .ok (.bool A.isNone) W := by
  simp only [binOp]
  simp [run_equal_slice_nil W 22 3 A n c Try.underlying22]
theorem Rd.addr {w : World} {B : Nat} {A : Option Addr} {l : List Int} (h : Rd w B 1 A l.length (l.map I)) (h0 : 0 < l.length) : ∃ a, A = some a := by
  obtain ⟨b, off, e, _⟩ := h.2 (by omega)
  exact ⟨_, e⟩
set_option maxRecDepth 100000 in
set_option maxHeartbeats 1000000 in
theorem cloneI_any (B : Nat) (A : Option Addr) (c : Nat) (l : List Int) (w : World) (hm : l.length ≤ 1000000) (h0 : 0 < l.length) (hB : B ≤ w.heap.size) (hr : Rd w B 1 A l.length (l.map I)) :
    Calls Try.prog 110 #[.slice A l.length c] w fun e w' => ∃ A' c', e = .returned (.slice A' l.length c') ∧ OwI w' w.heap.size (.slice A' l.length c') l ∧ Below w.heap.size w w' := by
  obtain ⟨ad, rfl⟩ := hr.addr h0
  have H := Lib.hid hr
  clear hr
  have hnil := fun W => eq_nil_I (some ad) l.length c W
  go_enter Try.func110, Try.ntmps110
  go_wp2_with (first
    | (at_builtin; refine list_step (fun K hK => ?_); refine step_appM Try.underlying22 info_int rfl (by omega) (by omega) rfl (.tmp 5) (.tmp 6) rfl w.heap.size 0 _ [] rfl (own_empty 1 (Nat.le_refl _)) _ l.length c (l.map I) rfl (H.out.alloc hB _) (ints_one l) (by omega) (by simp) ?_; intro A2 c2 w2 hown2 hg2 hbel2; go_simp; refine hK _ _ ?_; clear hK K))
  go_ret
  simp only [Nat.zero_add, List.nil_append] at hown2
  exact ⟨A2, c2, by simp, hown2, ((Below.refl _ _).alloc (Nat.le_refl _) _).trans hbel2⟩
end Go.Proofs.Ytbbjgcagkmlngab
/- The plan of code of registers, by the model: whether all registers are there. -/
namespace Go.Proofs.Ytbbjgcagkmlngab
open Go.RowKit

theorem nod_take {l : List Int} {k : Nat} (hk : k < l.length) (h : (l.take k).Nodup) (hh : hasI (l.take k) l[k] = false) : (l.take (k + 1)).Nodup := by
  rw [List.take_succ_eq_append_getElem hk, List.nodup_append]
  refine ⟨h, by simp, fun a ha b hb e => ?_⟩
  rw [List.mem_singleton] at hb
  subst hb
  subst e
  unfold hasI at hh
  rw [List.contains_iff_mem.2 ha] at hh
  cases hh
theorem nod_hit {l : List Int} {k : Nat} (hk : k < l.length) (hh : hasI (l.take k) l[k] = true) : nodI l = false := by
  unfold nodI
  rw [decide_eq_false_iff_not]
  intro h
  unfold hasI at hh
  obtain ⟨j, hj, e⟩ := List.mem_iff_getElem.1 (List.contains_iff_mem.1 hh)
  rw [List.length_take] at hj
  rw [List.getElem_take] at e
  have := (List.getElem_inj h).1 e
  omega
theorem ops_take {s : List (Int × Int × Int)} {r : Int} {k : Nat} (hk : k < s.length) (h : (s.take k).all (opIn r) = true) (ho : opIn r s[k] = true) : (s.take (k + 1)).all (opIn r) = true := by
  rw [List.take_succ_eq_append_getElem hk, List.all_append, h]
  simp [ho]
theorem ops_miss {s : List (Int × Int × Int)} {r : Int} {k : Nat} (hk : k < s.length) (ho : opIn r s[k] = false) : s.all (opIn r) = false := by
  rw [List.all_eq_false]
  exact ⟨_, List.getElem_mem hk, by rw [ho]; simp⟩
theorem opIn_all (r : Int) (x : Int × Int × Int) : opIn r x = allB [x.1, x.2.1, x.2.2] 0 (r - 1) := by simp [opIn, allB]
theorem rd3 {w : World} {g B : Nat} {a b c : Int} (hg : g < B) (h0 : w.cell? ⟨g, 0, none⟩ = some (.int .i64 a)) (h1 : w.cell? ⟨g, 1, none⟩ = some (.int .i64 b)) (h2 : w.cell? ⟨g, 2, none⟩ = some (.int .i64 c)) : Rd w B 1 (some ⟨g, 0, none⟩) [a, b, c].length ([a, b, c].map I) := by
  refine ⟨rfl, fun _ => ⟨g, 0, rfl, hg, fun j hj => ?_⟩⟩
  match j, hj with
  | 0, _ => exact h0
  | 1, _ => exact h1
  | 2, _ => exact h2
theorem box3' {w w1 : World} {a b c : Value} {t : TypeId} (h : w.alloc (.cells #[a, b, c] t) = w1) :
    (w1.cell? ⟨w.heap.size, 0, none⟩ = some a ∧ w1.cell? ⟨w.heap.size, 1, none⟩ = some b ∧ w1.cell? ⟨w.heap.size, 2, none⟩ = some c) ∧ w1.heap.size = w.heap.size + 1 ∧ Below w.heap.size w w1 :=
  let ⟨h0, h1, h2, hs, hb⟩ := box3 h
  ⟨⟨h0, h1, h2⟩, hs, hb⟩

set_option maxRecDepth 100000 in
set_option maxHeartbeats 8000000 in
theorem reShape_any (B : Nat) (A1 A2 A3 : Option Addr) (c1 c2 c3 : Nat) (c : Rc) (w : World) (hB : B ≤ w.heap.size) (hl1 : c.i.length ≤ 1048576) (hl2 : c.ops.length ≤ 1048576) (hl3 : c.o.length ≤ 1048576) (hcap : c.i.length ≤ c1 ∧ c.ops.length ≤ c2 ∧ c.o.length ≤ c3) (hr : RdC w B A1 A2 A3 c) :
    Calls Try.prog 152 #[.agg #[.int .i64 c.r, .slice A1 c.i.length c1, .slice A2 c.ops.length c2, .slice A3 c.o.length c3]] w fun e w' => e = .returned (.bool (shpB c)) ∧ Below w.heap.size w w' := by
  have H := Lib.hid hr
  have hc1 : (c.i.length : Int) ≤ (c1 : Int) := by omega
  have L1 := fun W => l1In_any c.r 1 46 W
  have L2 := fun W => l1In_any (c.i.length : Int) 1 6 W
  obtain ⟨t1, ht1⟩ : ∃ t, inB c.r 1 46 = t := ⟨_, rfl⟩
  obtain ⟨t2, ht2⟩ : ∃ t, inB (c.i.length : Int) 1 6 = t := ⟨_, rfl⟩
  rw [ht1] at L1
  rw [ht2] at L2
  have L1 := Lib.hid L1
  have L2 := Lib.hid L2
  have HT1 := Lib.hid ht1
  have HT2 := Lib.hid ht2
  clear hr ht1 ht2 hcap
  go_enter Try.func152, Try.ntmps152
  go_wp2_with fail
  go_at_call 85
  generalize hw1 : World.alloc w _ = w1
  obtain ⟨⟨x0, x1, x2, x3⟩, xs, xb⟩ := bx4r hw1
  clear hw1
  have XB := Lib.hid xb
  clear xb
  refine (L1.out w1).mono ?_
  rintro e w2 ⟨rfl, rfl⟩
  cases t1 with
  | false =>
    have E := Lib.hid (show shpB c = false by unfold shpB; rw [HT1.out]; rfl)
    go_wp2
    go_ret
    exact ⟨ret_bool E.out.symm, XB.out⟩
  | true =>
  go_wp2_with fail
  go_at_call 85
  refine (L2.out w1).mono ?_
  rintro e w2 ⟨rfl, rfl⟩
  cases t2 with
  | false =>
    have E := Lib.hid (show shpB c = false by unfold shpB; rw [HT1.out, HT2.out]; rfl)
    go_wp2
    go_ret
    exact ⟨ret_bool E.out.symm, XB.out⟩
  | true =>
  by_cases h40 : c.ops.length ≤ 40
  case neg =>
    have E := Lib.hid (show shpB c = false by unfold shpB; rw [HT1.out, HT2.out, decide_eq_false h40]; rfl)
    have i40 : (40 : Int) < (c.ops.length : Int) := by omega
    clear h40
    go_wp2
    go_ret
    exact ⟨ret_bool E.out.symm, XB.out⟩
  case pos =>
  have i40 : ¬ (40 : Int) < (c.ops.length : Int) := by omega
  by_cases h6 : c.o.length ≤ 6
  case neg =>
    have E := Lib.hid (show shpB c = false by unfold shpB; rw [HT1.out, HT2.out, decide_eq_true h40, decide_eq_false h6]; rfl)
    have i6 : (6 : Int) < (c.o.length : Int) := by omega
    clear h6
    go_wp2
    go_ret
    exact ⟨ret_bool E.out.symm, XB.out⟩
  case pos =>
  have i6 : ¬ (6 : Int) < (c.o.length : Int) := by omega
  have EQ := Lib.hid (show shpB c = (nodI c.i && rcIn c) by unfold shpB; rw [HT1.out, HT2.out, decide_eq_true h40, decide_eq_true h6]; rfl)
  have hrb : 1 ≤ c.r ∧ c.r ≤ 46 := by have := HT1.out; unfold inB at this; simpa using this
  have hrw : IntKind.i64.wrap (c.r - 1) = c.r - 1 := IntWalk.i64_in _ (by omega)
  have HRB := Lib.hid hrb
  have hi6 : c.i.length ≤ 6 := by have := HT2.out; unfold inB at this; simp at this; omega
  clear hrb
  go_wp2
  go_loopw [33] (fun iv wr => ∃ k : Nat, k ≤ c.i.length ∧ iv = .int .i64 k ∧ (c.i.take k).Nodup ∧ w1 = wr) (fun i _ => c.i.length - (intOf i).toNat)
  case atStart => exact ⟨0, by omega, rfl, by simp, rfl⟩
  case round =>
    obtain ⟨k, hk, rfl, hnd, rfl⟩ := hrel
    have ND := Lib.hid hnd
    clear hnd
    by_cases hlt : k < c.i.length
    · have iqk : (k : Int) < (c.i.length : Int) := by omega
      have ikc : (k : Int) ≤ (c1 : Int) := by omega
      obtain ⟨b, off, rfl, hb, hc⟩ := (H.out.below' XB.out hB).1.int hlt
      have hlk : (c.i.take k).length = k := by simp; omega
      have hrt := (H.out.below' XB.out hB).1.take (Nat.le_of_lt hlt)
      have LH := l1Has_any B (some ⟨b, off, none⟩) c1 (c.i.take k) c.i[k] w1 (by omega) (by rw [hlk]; exact hrt)
      rw [hlk] at LH
      obtain ⟨x, hx⟩ : ∃ x, c.i[k] = x := ⟨_, rfl⟩
      obtain ⟨t, ht⟩ : ∃ t, hasI (c.i.take k) c.i[k] = t := ⟨_, rfl⟩
      rw [ht, hx] at LH
      rw [hx] at hc
      have LH := Lib.hid LH
      have HT := Lib.hid ht
      clear hrt ht hx
      go_wp2_with fail
      go_at_call 71
      refine LH.out.mono ?_
      rintro e w3 ⟨rfl, rfl⟩
      cases t with
      | true =>
        have E := Lib.hid (show shpB c = false by rw [EQ.out, nod_hit hlt HT.out]; rfl)
        go_wp2
        go_ret
        exact ⟨ret_bool E.out.symm, XB.out⟩
      | false =>
        have N2 := Lib.hid (nod_take hlt ND.out HT.out)
        go_wp2
        go_roundw
        case rel => exact ⟨k + 1, by omega, by go_num, N2.out, trivial⟩
        case measure => simp [intOf]; omega
    · have hk' : k = c.i.length := by omega
      subst hk'
      have NOD := Lib.hid (show nodI c.i = true by have := ND.out; rw [List.take_length] at this; exact decide_eq_true this)
      go_wp2
      go_loopw [48] (fun iv wr => ∃ k : Nat, k ≤ c.ops.length ∧ iv = .int .i64 k ∧ (c.ops.take k).all (opIn c.r) = true ∧ Below w1.heap.size w1 wr) (fun i _ => c.ops.length - (intOf i).toNat)
      case atStart => exact ⟨0, by omega, rfl, by simp, Below.refl _ _⟩
      case round =>
        obtain ⟨k, hk, rfl, hal, hbel⟩ := hrel
        have hsz := hbel.size
        have AL := Lib.hid hal
        have z0 := (hbel.cell (p := ⟨w.heap.size, 0, none⟩) (by simp only []; omega)).trans x0
        have z1 := (hbel.cell (p := ⟨w.heap.size, 1, none⟩) (by simp only []; omega)).trans x1
        have z3 := (hbel.cell (p := ⟨w.heap.size, 3, none⟩) (by simp only []; omega)).trans x3
        have HBW := Lib.hid (XB.out.trans (hbel.mono (by omega)))
        have BEL := Lib.hid hbel
        clear hal hbel
        by_cases hlt : k < c.ops.length
        · have iqk : (k : Int) < (c.ops.length : Int) := by omega
          obtain ⟨b, off, rfl, hb, hc1', hc2', hc3'⟩ := (H.out.below' HBW.out hB).2.1.op hlt
          obtain ⟨t, ht⟩ : ∃ t, opIn c.r c.ops[k] = t := ⟨_, rfl⟩
          obtain ⟨⟨p, q, s⟩, hx⟩ : ∃ x, c.ops[k] = x := ⟨_, rfl⟩
          have hal := opIn_all c.r c.ops[k]
          rw [ht, hx] at hal
          rw [hx] at hc1' hc2' hc3'
          simp only at hal hc1' hc2' hc3'
          have HAL := Lib.hid hal
          have HT := Lib.hid ht
          have Z0 := fun o => cell_kept (cell_kept z0 o)
          clear ht hx hal
          go_wp2_with fail
          go_at_call 131
          generalize hw5 : World.alloc wr _ = w5
          obtain ⟨⟨e0, e1, e2⟩, es, eb⟩ := box3' hw5
          clear hw5
          generalize hw6 : World.alloc w5 _ = w6
          obtain ⟨⟨f0, f1, f2⟩, fs, fb⟩ := box3' hw6
          clear hw6
          have hl := l1All_any w6.heap.size (some ⟨w5.heap.size, 0, none⟩) 3 [p, q, s] 0 (c.r - 1) w6 (by simp) (rd3 (by omega) f0 f1 f2)
          rw [← HAL.out] at hl
          have BEL6 := Lib.hid (BEL.out.trans ((eb.trans (fb.mono (by omega))).mono hsz))
          have q0 := (fb.cell (p := ⟨w.heap.size, 0, none⟩) (by simp only []; omega)).trans ((eb.cell (p := ⟨w.heap.size, 0, none⟩) (by simp only []; omega)).trans z0)
          clear Z0 z0 z1 z3 f0 f1 f2 fb eb e0 e1 e2
          rw [← es]
          refine hl.mono ?_
          rintro e w7 ⟨rfl, rfl⟩
          clear hl
          cases t with
          | false =>
            have E := Lib.hid (show shpB c = false by rw [EQ.out, NOD.out]; unfold rcIn; rw [ops_miss hlt HT.out]; simp)
            go_wp2
            go_ret
            exact ⟨ret_bool E.out.symm, XB.out.trans (BEL6.out.mono (by omega))⟩
          | true =>
            have N2 := Lib.hid (ops_take hlt AL.out HT.out)
            go_wp2
            go_roundw
            case rel => exact ⟨k + 1, by omega, by go_num, N2.out, BEL6.out⟩
            case measure => simp [intOf]; omega
        · have hk' : k = c.ops.length := by omega
          subst hk'
          have OPS := Lib.hid (show c.ops.all (opIn c.r) = true by have := AL.out; rwa [List.take_length] at this)
          have EQ2 := Lib.hid (show shpB c = (allB c.i 0 (c.r - 1) && allB c.o 0 (c.r - 1)) by rw [EQ.out, NOD.out]; unfold rcIn; rw [OPS.out]; simp)
          have LI := l1All_any B A1 c1 c.i 0 (c.r - 1) wr (by omega) (H.out.below' HBW.out hB).1
          have LO := l1All_any B A3 c3 c.o 0 (c.r - 1) wr (by omega) (H.out.below' HBW.out hB).2.2
          obtain ⟨t, ht⟩ : ∃ t, allB c.i 0 (c.r - 1) = t := ⟨_, rfl⟩
          obtain ⟨u, hu⟩ : ∃ t, allB c.o 0 (c.r - 1) = t := ⟨_, rfl⟩
          have eq := EQ2.out
          rw [ht, hu] at eq
          rw [ht] at LI
          rw [hu] at LO
          have LI := Lib.hid LI
          have LO := Lib.hid LO
          have E := Lib.hid eq
          clear ht hu eq
          go_wp2_with fail
          go_at_call 131
          refine LI.out.mono ?_
          rintro e w3 ⟨rfl, rfl⟩
          cases t with
          | false =>
            go_wp2
            go_ret
            exact ⟨ret_bool E.out.symm, HBW.out⟩
          | true =>
            go_wp2_with fail
            go_at_call 131
            refine LO.out.mono ?_
            rintro e w3 ⟨rfl, rfl⟩
            go_wp2
            go_ret
            exact ⟨ret_bool (by rw [E.out]; cases u <;> rfl), HBW.out⟩
end Go.Proofs.Ytbbjgcagkmlngab
/- A new row with room: the library's slices.Grow at the nil slice. -/
namespace Go.Proofs.Ytbbjgcagkmlngab
open Go.RowKit

end Go.Proofs.Ytbbjgcagkmlngab
/- Two rows of steps behind each other: the library's slices.Concat. -/
namespace Go.Proofs.Ytbbjgcagkmlngab
open Go.RowKit

def catN (a b k : Nat) : Nat := match k with | 0 => 0 | 1 => a | _ => a + b
def catL (a b : List (Int × Int)) (k : Nat) : List (Int × Int) := match k with | 0 => [] | 1 => a | _ => a ++ b
theorem fl_append (a b : List (Int × Int)) : fl (a ++ b) = fl a ++ fl b := by simp [fl]

end Go.Proofs.Ytbbjgcagkmlngab
/- The program's new operands of steps, by any list of names. -/
namespace Go.Proofs.Ytbbjgcagkmlngab
open Go.RowKit

/-- A step with the names of its operands, the smaller one first. -/
def stN (nm : List Int) (st : Int × Int) : Int × Int := stI (nm.getD st.1.toNat 0) (nm.getD st.2.toNat 0)

set_option maxRecDepth 100000 in
set_option maxHeartbeats 2000000 in
theorem renamedStepsN_any (B : Nat) (A A2 : Option Addr) (c c2 : Nat) (s : List (Int × Int)) (nm : List Int) (w : World) (hm : s.length ≤ 1000) (hB : B ≤ w.heap.size) (hin : ∀ st ∈ s, 0 ≤ st.1 ∧ st.1 ≤ st.2 ∧ st.2 < (nm.length : Int)) (hr : Rd w B 2 A s.length (fl s)) (hrn : Rd w B 1 A2 nm.length (nm.map I)) :
    Calls Try.prog 97 #[.slice A s.length c, .slice A2 nm.length c2] w fun e w' => ∃ A' c', e = .returned (.slice A' s.length c') ∧ OwS w' w.heap.size (.slice A' s.length c') (s.map (stN nm)) ∧ Below w.heap.size w w' := by
  have H := Lib.hid hr
  have HN := Lib.hid hrn
  have HIN := Lib.hid hin
  clear hr hrn hin
  obtain ⟨T, hT⟩ : ∃ T, s.map (stN nm) = T := ⟨_, rfl⟩
  have hTl : T.length = s.length := by rw [← hT]; simp
  have hTat : ∀ k (h : k < s.length) (h' : k < T.length), T[k] = stN nm s[k] := fun k h h' => by subst hT; simp
  rw [hT]
  have HTL := Lib.hid hTl
  have HTA := Lib.hid hTat
  clear hT hTl hTat
  obtain ⟨i0, hi, hz0, hz1, hz2⟩ := info_parts info_step
  have hmk : ∀ W : World, (Instr.makeSlice 42 (.int .i64 (s.length : Int)) (.int .i64 (s.length : Int))).run Try.prog W = .ok (.slice (some ⟨W.heap.size, 0, none⟩) s.length s.length) (W.alloc (.cells (madeCells #[.int .i64 0, .int .i64 0] (s.length * 2)) 114)) := fun W => by
    have hr := run_make (P := Try.prog) W 42 114 i0 _ Try.underlying42 hi hz0 .i64 .i64 s.length s.length (by omega) (Int.le_refl _) (by rw [hz2]; omega) (by omega)
    simp only [Int.toNat_natCast] at hr
    rw [hz1] at hr
    exact hr
  have hmade : (w.alloc (.cells (madeCells #[.int .i64 0, .int .i64 0] (s.length * 2)) 114)).ownsRow w.heap.size 114 2 (.slice (some ⟨w.heap.size, 0, none⟩) s.length s.length) s.length (fl (T.take 0) ++ List.replicate ((s.length - 0) * 2) (I 0)) := by
    have h := World.ownsRow_lit (base := w.heap.size) (e := 114) (size := 2) w (madeCells #[Value.int .i64 0, .int .i64 0] (s.length * 2)) s.length (Nat.le_refl _) (by unfold maxLen; omega) (by simp [size_madeCells])
    rw [made2] at h
    simpa [fl] using h
  have HM := Lib.hid hmade
  clear hmade hi hz0 hz1 hz2
  go_enter Try.func97, Try.ntmps97
  go_wp2
  clear hmk
  go_loopw [13] (fun i wr => ∃ k : Nat, k ≤ s.length ∧ i = .int .i64 k ∧ wr.ownsRow w.heap.size 114 2 (.slice (some ⟨w.heap.size, 0, none⟩) s.length s.length) s.length (fl (T.take k) ++ List.replicate ((s.length - k) * 2) (I 0)) ∧ Below w.heap.size w wr) (fun i _ => s.length - (intOf i).toNat)
  case atStart => exact ⟨0, by omega, rfl, HM.out, (Below.refl _ _).alloc (Nat.le_refl _) _⟩
  case round =>
    obtain ⟨k, hk, rfl, hown, hbel⟩ := hrel
    have hsz : w.heap.size ≤ wr.heap.size := hbel.size
    by_cases hlt : k < s.length
    · obtain ⟨i1, i2, i3⟩ := HIN.out _ (List.getElem_mem hlt)
      obtain ⟨b, off, rfl, hb, hc1, hc2⟩ := (H.out.below' hbel (by omega)).stp hlt
      obtain ⟨x, hx⟩ : ∃ x : Nat, (s[k]).1 = x := ⟨(s[k]).1.toNat, by omega⟩
      obtain ⟨y, hy⟩ : ∃ y : Nat, (s[k]).2 = y := ⟨(s[k]).2.toNat, by omega⟩
      rw [hx] at hc1
      rw [hy] at hc2
      have hxl : x < nm.length := by omega
      have hyl : y < nm.length := by omega
      have hE := fun W hBW hrW => renamedStep_any B x y A2 c2 nm W hBW (by exact hxl) (by exact hyl) hrW
      have hta : T[k]'(by have := HTL.out; omega) = (leastI nm[x] nm[y], mostI nm[x] nm[y]) := by
        rw [HTA.out k hlt (by have := HTL.out; omega)]
        unfold stN stI
        rw [hx, hy]
        simp [hxl, hyl]
      have HE := Lib.hid hE
      have HTAK := Lib.hid hta
      have BEL := Lib.hid hbel
      have OWN := Lib.hid hown
      clear hown hbel hE hta hx hy i1 i2 i3
      go_wp2_with fail
      go_at_call 143
      generalize hw4 : World.alloc wr _ = w4
      obtain ⟨e0, e1, es, eb⟩ := box2 hw4
      clear hw4
      have hbw4 : Below w.heap.size w w4 := BEL.out.trans (eb.mono hsz)
      refine (HE.out w4 (by have := hbw4.size; omega) (HN.out.below' hbw4 hB)).mono ?_
      rintro e w5 ⟨rfl, hb5⟩
      have hb45 : Below wr.heap.size wr w5 := eb.trans (hb5.mono eb.size)
      have hown5 := own_below OWN.out hb45
      have hl : (fl (T.take k)).length = k * 2 := by rw [fl_length]; have := HTL.out; simp; omega
      have d0 : w5.cell? ⟨w.heap.size, k * 2, none⟩ = some (I 0) := by
        rw [hown5.cellAt _ (by omega)]
        exact rep_at (by omega) (by omega)
      have d1 : w5.cell? ⟨w.heap.size, k * 2 + 1, none⟩ = some (I 0) := by
        rw [hown5.cellAt _ (by omega)]
        exact rep_at (by omega) (by omega)
      have f0 : w5.frozen? ⟨w.heap.size, k * 2, none⟩ = false := hown5.frozenAt _
      have f1 : w5.frozen? ⟨w.heap.size, k * 2 + 1, none⟩ = false := hown5.frozenAt _
      have HB5 := Lib.hid (BEL.out.trans (hb45.mono hsz))
      have OWN5 := Lib.hid hown5
      clear hb5 hown5 hl hb45 hbw4 eb e0 e1
      go_wp2
      go_roundw
      case rel =>
        refine ⟨k + 1, by omega, by go_num, ?_, ((HB5.out.setCell (Nat.le_refl _) _).setCell (Nat.le_refl _) _)⟩
        have h := ((OWN5.out.stored (k * 2) (I (leastI nm[x] nm[y]))).1.stored (k * 2 + 1) (I (mostI nm[x] nm[y]))).1
        have hf := fill_step T k (by have := HTL.out; omega)
        rw [HTAK.out, HTL.out] at hf
        rw [hf] at h
        exact h
      case measure => simp [intOf]; omega
    · have hk' : k = s.length := by omega
      have BEL := Lib.hid hbel
      have OWN := Lib.hid hown
      subst hk'
      clear hown hbel
      go_wp2
      go_ret
      refine ⟨_, _, rfl, ?_, BEL.out⟩
      have h := OWN.out
      rw [List.take_of_length_le (by have := HTL.out; omega)] at h
      show World.ownsRow _ _ _ _ _ _ _
      rw [HTL.out]
      simpa using h
end Go.Proofs.Ytbbjgcagkmlngab
