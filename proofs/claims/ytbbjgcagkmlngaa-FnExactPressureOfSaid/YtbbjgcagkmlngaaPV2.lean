/- Joined: Us Ut Uu Uv Kb Kd Ta Tb Pa Gi Ci Jd Je Jc Jf. -/
import Derived.Test.YtbbjgcagkmlngaaPV0
import Derived.Test.YtbbjgcagkmlngaaPV1
import Derived.Lib.AppendZeros
import Derived.Lib.AppendZerosOnto
import Derived.WalkMore
/- Used steps, of the model and of the program. -/
namespace Go.Proofs.Ytbbjgcagkmlngaa
open Go.RowKit

theorem put_below {w w2 w3 : World} {o o' : Obj} (h : Below w.heap.size (w.alloc o) w2) (h' : Below w.heap.size (w2.alloc o') w3) : Below w.heap.size w w3 := by
  have hs2 : w.heap.size ≤ w2.heap.size := by have := h.size; simp at this; omega
  exact ((((Below.refl _ _).alloc (Nat.le_refl _) _).trans h).alloc hs2 _).trans h'

set_option maxHeartbeats 1000000 in
theorem l1Put_any (B : Nat) (A : Option Addr) (c : Nat) (l : List Int) (n : Int) (w : World) (hm : l.length ≤ 1000000) (hB : B ≤ w.heap.size) (hlt : ∀ x ∈ l, n < x) (hcap : l.length ≤ c) (hr : Rd w B 1 A l.length (l.map I)) :
    Calls Try.prog 114 #[.slice A l.length c, .int .i64 n] w fun e w' => ∃ A' c', e = .returned (.slice A' (l.length + 1) c') ∧ OwI w' w.heap.size (.slice A' (l.length + 1) c') (n :: l) ∧ Below w.heap.size w w' := by
  have H := Lib.hid hr
  have HLT := Lib.hid hlt
  clear hr hlt
  go_enter Try.func114, Try.ntmps114
  go_wp2
  go_loop [5] (fun i => i = .int .i64 0) (fun _ => 0)
  case atStart => rfl
  case round =>
    subst hrel
    by_cases hl : 0 < l.length
    · obtain ⟨b, off, rfl, hb, hcell⟩ := H.out.int hl
      rw [Nat.add_zero] at hcell
      have h1 := HLT.out _ (List.getElem_mem hl)
      have h2 : ¬ l[0] < n := by omega
      have h3 : ¬ l[0] = n := by omega
      have i0 : (0 : Int) < (l.length : Int) := by omega
      go_wp2_with (first
        | (at_builtin; refine list_step (fun K hK => ?_); refine step_appM Try.underlying22 info_int rfl (by omega) (by omega) rfl (.tmp 34) (.tmp 37) rfl w.heap.size 0 _ [] rfl (own_empty 1 (Nat.le_refl _)) _ 0 _ [] rfl (Rd.nil _ 0 _ _) (by simp) (by omega) (by simp) ?_; intro A2 c2 w2 hown2 hg2 hbel2; go_simp; refine hK _ _ ?_; clear hK K)
        | (at_builtin; refine list_step (fun K hK => ?_); refine step_app1 Try.underlying22 info_int rfl (by omega) rfl (.tmp 39) (.tmp 41) rfl w.heap.size 0 _ [] rfl (World.ownsRow.alloc hown2 _) w2.heap.size 1 (I n) rfl (by simp) rfl (by omega) (by have := hbel2.size; simp at this; simp; omega) ?_; intro A3 c3 w3 hown3 hg3 hbel3; go_simp; refine hK _ _ ?_; clear hK K)
        | (at_builtin; refine list_step (fun K hK => ?_); have hb23 := put_below hbel2 hbel3; refine step_appM Try.underlying22 info_int rfl (by omega) (by omega) rfl (.tmp 43) (.tmp 46) rfl w.heap.size 1 _ _ rfl hown3 _ l.length _ (l.map I) rfl (H.out.below' hb23 hB) (ints_one l) (by omega) hb23.size ?_; intro A4 c4 w4 hown4 hg4 hbel4; go_simp; refine hK _ _ ?_; clear hK K))
      go_ret
      refine ⟨A4, c4, ret_slice (by omega), ?_, (put_below hbel2 hbel3).trans hbel4⟩
      have h := hown4
      rw [show 1 + l.length = l.length + 1 by omega] at h
      simpa [OwI] using h
    · have hl0 : l.length = 0 := by omega
      go_wp2_with (first
        | (at_builtin; refine list_step (fun K hK => ?_); refine step_appM Try.underlying22 info_int rfl (by omega) (by omega) rfl (.tmp 34) (.tmp 37) rfl w.heap.size 0 _ [] rfl (own_empty 1 (Nat.le_refl _)) _ 0 _ [] rfl (Rd.nil _ 0 _ _) (by simp) (by omega) (by simp) ?_; intro A2 c2 w2 hown2 hg2 hbel2; go_simp; refine hK _ _ ?_; clear hK K)
        | (at_builtin; refine list_step (fun K hK => ?_); refine step_app1 Try.underlying22 info_int rfl (by omega) rfl (.tmp 39) (.tmp 41) rfl w.heap.size 0 _ [] rfl (World.ownsRow.alloc hown2 _) w2.heap.size 1 (I n) rfl (by simp) rfl (by omega) (by have := hbel2.size; simp at this; simp; omega) ?_; intro A3 c3 w3 hown3 hg3 hbel3; go_simp; refine hK _ _ ?_; clear hK K)
        | (at_builtin; refine list_step (fun K hK => ?_); have hb23 := put_below hbel2 hbel3; refine step_appM Try.underlying22 info_int rfl (by omega) (by omega) rfl (.tmp 43) (.tmp 46) rfl w.heap.size 1 _ _ rfl hown3 _ 0 _ (l.map I) rfl (by have h := H.out.below' hb23 hB; rw [hl0] at h; exact h) (ints_one l) (by omega) hb23.size ?_; intro A4 c4 w4 hown4 hg4 hbel4; go_simp; refine hK _ _ ?_; clear hK K))
      go_ret
      refine ⟨A4, c4, ret_slice (by omega), ?_, (put_below hbel2 hbel3).trans hbel4⟩
      have h := hown4
      rw [show 1 + 0 = l.length + 1 by omega] at h
      show w4.ownsRow _ _ _ _ _ _
      have e1 : (n :: l).length = l.length + 1 := rfl
      rw [e1]
      first | exact h | (rw [hl0] at h ⊢; exact h)
end Go.Proofs.Ytbbjgcagkmlngaa
/- Used steps: what they are, and the model's. -/
namespace Go.Proofs.Ytbbjgcagkmlngaa
open Go.RowKit

def needI (N : Nat) (s : List (Int × Int)) (o : List Int) : Nat → List Int
  | 0 => o
  | j + 1 => if hasI (needI N s o j) ((N : Int) + ((s.length - 1 - j : Nat) : Int)) then needI N s o j ++ [(s.getD (s.length - 1 - j) (0, 0)).1, (s.getD (s.length - 1 - j) (0, 0)).2] else needI N s o j
def finI (N : Nat) (s : List (Int × Int)) (o : List Int) (i : Nat) : Bool := hasI (needI N s o s.length) ((N : Int) + (i : Int))
def usT (N : Nat) (s : List (Int × Int)) (o : List Int) (j : Nat) : List Int := ((List.range' (s.length - j) j).filter (finI N s o)).map fun i : Nat => (i : Int)
def usd (N : Nat) (s : List (Int × Int)) (o : List Int) : List Int := usT N s o s.length

theorem hasI_two (l : List Int) (a b x : Int) : hasI (l ++ [a, b]) x = (hasI l x || (x == a || x == b)) := by
  unfold hasI
  rw [Bool.eq_iff_iff]
  simp
theorem need_hit {N : Nat} {s : List (Int × Int)} {o : List Int} {j i : Nat} (hi : i < s.length) (hij : s.length - 1 - j = i) (h : hasI (needI N s o j) ((N : Int) + (i : Int)) = true) : needI N s o (j + 1) = needI N s o j ++ [(s[i]).1, (s[i]).2] := by
  subst hij
  simp only [needI]
  rw [if_pos h]
  simp [hi]
theorem need_miss {N : Nat} {s : List (Int × Int)} {o : List Int} {j i : Nat} (hij : s.length - 1 - j = i) (h : hasI (needI N s o j) ((N : Int) + (i : Int)) = false) : needI N s o (j + 1) = needI N s o j := by
  subst hij
  simp only [needI]
  rw [if_neg (by rw [h]; decide)]
theorem need_len (N : Nat) (s : List (Int × Int)) (o : List Int) : ∀ j, (needI N s o j).length ≤ o.length + 2 * j := by
  intro j
  induction j with
  | zero => simp [needI]
  | succ j ih =>
    simp only [needI]
    split
    · simp; omega
    · omega
theorem need_stable {N : Nat} {s : List (Int × Int)} {o : List Int} (hs : OkS N s) {j i : Nat} (hj : j < s.length) (hij : s.length - 1 - j = i) : ∀ d, j + d ≤ s.length → hasI (needI N s o (j + d)) ((N : Int) + (i : Int)) = hasI (needI N s o j) ((N : Int) + (i : Int)) := by
  intro d
  induction d with
  | zero => intro _; rfl
  | succ d ih =>
    intro hd
    have ih := ih (by omega)
    have hlt : s.length - 1 - (j + d) < s.length := by omega
    obtain ⟨h1, h2, h3⟩ := hs _ hlt
    show hasI (needI N s o (j + d + 1)) _ = _
    cases hq : hasI (needI N s o (j + d)) ((N : Int) + ((s.length - 1 - (j + d) : Nat) : Int)) with
    | true =>
      rw [need_hit hlt rfl hq, hasI_two, ih]
      have e1 : (((N : Int) + (i : Int)) == (s[s.length - 1 - (j + d)]).1) = false := by rw [beq_eq_false_iff_ne]; omega
      have e2 : (((N : Int) + (i : Int)) == (s[s.length - 1 - (j + d)]).2) = false := by rw [beq_eq_false_iff_ne]; omega
      rw [e1, e2]
      simp
    | false => rw [need_miss rfl hq, ih]
theorem fin_at {N : Nat} {s : List (Int × Int)} {o : List Int} (hs : OkS N s) {j i : Nat} (hj : j < s.length) (hij : s.length - 1 - j = i) : finI N s o i = hasI (needI N s o j) ((N : Int) + (i : Int)) := by
  have h := need_stable (o := o) hs hj hij (s.length - j) (by omega)
  rw [show j + (s.length - j) = s.length by omega] at h
  exact h
theorem us_hit {N : Nat} {s : List (Int × Int)} {o : List Int} {j i : Nat} (hj : j < s.length) (hij : s.length - 1 - j = i) (h : finI N s o i = true) : usT N s o (j + 1) = (i : Int) :: usT N s o j := by
  unfold usT
  rw [show s.length - (j + 1) = i by omega, List.range'_succ, show i + 1 = s.length - j by omega, List.filter_cons_of_pos h]
  rfl
theorem us_miss {N : Nat} {s : List (Int × Int)} {o : List Int} {j i : Nat} (hj : j < s.length) (hij : s.length - 1 - j = i) (h : finI N s o i = false) : usT N s o (j + 1) = usT N s o j := by
  unfold usT
  rw [show s.length - (j + 1) = i by omega, List.range'_succ, show i + 1 = s.length - j by omega, List.filter_cons_of_neg (by rw [h]; decide)]
theorem us_gt {N : Nat} {s : List (Int × Int)} {o : List Int} {j i : Nat} (hj : j < s.length) (hij : s.length - 1 - j = i) : ∀ x ∈ usT N s o j, (i : Int) < x := by
  intro x hx
  unfold usT at hx
  simp only [List.mem_map, List.mem_filter, List.mem_range'_1] at hx
  obtain ⟨y, ⟨hy, _⟩, rfl⟩ := hx
  omega
theorem us_len (N : Nat) (s : List (Int × Int)) (o : List Int) (j : Nat) : (usT N s o j).length ≤ j := by
  unfold usT
  rw [List.length_map]
  exact Nat.le_trans (List.length_filter_le _ _) (by simp)
theorem own_cap {w : World} {B e sz n c : Nat} {A : Option Addr} {xs : List Value} (h : w.ownsRow B e sz (.slice A n c) n xs) : n ≤ c := by
  obtain ⟨A0, c0, e0, h0⟩ := own_form h
  injection e0 with _ _ e1
  omega
theorem rd_two {w : World} {g : Nat} {a b : Int} (h0 : w.cell? ⟨g, 0, none⟩ = some (I a)) (h1 : w.cell? ⟨g, 1, none⟩ = some (I b)) : Rd w (g + 1) 1 (some ⟨g, 0, none⟩) 2 ([a, b].map I) :=
  ⟨rfl, fun _ => ⟨g, 0, rfl, by omega, fun j hj => by
    have hj2 : j = 0 ∨ j = 1 := by omega
    rcases hj2 with rfl | rfl
    · exact h0
    · exact h1⟩⟩

end Go.Proofs.Ytbbjgcagkmlngaa
/- Used steps: the program's. -/
namespace Go.Proofs.Ytbbjgcagkmlngaa
open Go.RowKit

theorem info_bool : (Try.prog.info? 4).map (fun i => (i.zero, i.size, i.bytes)) = some (some (.bool false), 1, 1) := by kernel_rfl
def bools (l : List Int) (R : Nat) : List Value := (List.range R).map fun v : Nat => Value.bool (hasI l (v : Int))
theorem bools_length (l : List Int) (R : Nat) : (bools l R).length = R := by simp [bools]
theorem bools_nil (R : Nat) : bools [] R = List.replicate R (.bool false) := by
  apply List.ext_getElem?
  intro j
  by_cases hj : j < R <;> simp [bools, hj, hasI]
theorem bools_set (l : List Int) {R a : Nat} (ha : a < R) : (bools l R).set a (.bool true) = bools (l ++ [(a : Int)]) R := by
  apply List.ext_getElem?
  intro j
  by_cases hj : j < R
  · by_cases hja : a = j
    · subst hja
      rw [List.getElem?_set_self (by rw [bools_length]; exact ha)]
      simp [bools, ha, hasI]
    · rw [List.getElem?_set_ne hja]
      have : ¬ (j : Int) = (a : Int) := by omega
      simp [bools, hj, hasI, this]
  · rw [List.getElem?_eq_none (by simp [bools]; omega), List.getElem?_eq_none (by simp [bools]; omega)]
theorem bools_at (l : List Int) {R a : Nat} (ha : a < R) : (bools l R)[a]? = some (.bool (hasI l (a : Int))) := by simp [bools, ha]
theorem box4 {w w1 : World} {a b c d : Value} {t : TypeId} (h : w.alloc (.cells #[a, b, c, d] t) = w1) :
    w1.cell? ⟨w.heap.size, 0, none⟩ = some a ∧ w1.cell? ⟨w.heap.size, 1, none⟩ = some b ∧ w1.cell? ⟨w.heap.size, 2, none⟩ = some c ∧ w1.cell? ⟨w.heap.size, 3, none⟩ = some d ∧ w1.heap.size = w.heap.size + 1 ∧ Below w.heap.size w w1 := by
  subst h
  refine ⟨?_, ?_, ?_, ?_, by simp, (Below.refl _ _).alloc (Nat.le_refl _) _⟩ <;> (rw [World.cell?_alloc_at _ _ _ _ rfl]; rfl)
theorem bools_own {w : World} {B : Nat} (n : Nat) (hn : n ≤ 1000) (hB : B ≤ w.heap.size) :
    (w.alloc (.cells (madeCells #[Value.bool false] n) 4)).ownsRow B 4 1 (.slice (some ⟨w.heap.size, 0, none⟩) n n) n (bools [] n) := by
  have h := World.ownsRow_lit (base := B) (e := 4) (size := 1) w (madeCells #[Value.bool false] n) n hB (by unfold maxLen; omega) (by simp [size_madeCells])
  rw [toList_madeCells_one] at h
  rw [bools_nil]
  exact h

/-- A store of true. -/
theorem own_set1 {w : World} {B g R a : Nat} {l : List Int} (h : w.ownsRow B 4 1 (.slice (some ⟨g, 0, none⟩) R R) R (bools l R)) (ha : a < R) :
    w.frozen? ⟨g, a, none⟩ = false ∧ (∃ u, w.cell? ⟨g, a, none⟩ = some (.bool u)) ∧ (w.setCell ⟨g, a, none⟩ (.bool true)).ownsRow B 4 1 (.slice (some ⟨g, 0, none⟩) R R) R (bools (l ++ [(a : Int)]) R) := by
  refine ⟨h.frozenAt _, ⟨_, by rw [h.cellAt _ (by omega)]; exact bools_at _ ha⟩, ?_⟩
  have h1 := (h.stored a (.bool true)).1
  rw [bools_set _ ha] at h1
  exact h1

def usP (N : Nat) (s : List (Int × Int)) (o : List Int) (k : Nat) : List Int := ((List.range k).filter (finI N s o)).map fun i : Nat => (i : Int)
theorem usP_all (N : Nat) (s : List (Int × Int)) (o : List Int) : usP N s o s.length = usd N s o := by
  unfold usP usd usT
  rw [Nat.sub_self, List.range_eq_range']
theorem usP_len (N : Nat) (s : List (Int × Int)) (o : List Int) (k : Nat) : (usP N s o k).length ≤ k := by
  unfold usP
  rw [List.length_map]
  exact Nat.le_trans (List.length_filter_le _ _) (by simp)
theorem usP_hit {N : Nat} {s : List (Int × Int)} {o : List Int} {k : Nat} (h : finI N s o k = true) : usP N s o (k + 1) = usP N s o k ++ [(k : Int)] := by
  unfold usP
  rw [List.range_succ, List.filter_append, List.map_append]
  simp [h]
theorem usP_miss {N : Nat} {s : List (Int × Int)} {o : List Int} {k : Nat} (h : finI N s o k = false) : usP N s o (k + 1) = usP N s o k := by
  unfold usP
  rw [List.range_succ, List.filter_append, List.map_append]
  simp [h]

end Go.Proofs.Ytbbjgcagkmlngaa
/- UsedSteps and IsTrim, of the model and of the program. -/
namespace Go.Proofs.Ytbbjgcagkmlngaa
open Go.RowKit

def usdP (p : Pl) : List Int := if good p then usd p.n.toNat p.s p.o else []
def trimB (p : Pl) : Bool := good p && decide ((usdP p).length = p.s.length)
theorem usdP_len (p : Pl) : (usdP p).length ≤ 40 := by
  unfold usdP
  split
  · rename_i h
    obtain ⟨N, hN, _, _, h40, _⟩ := good_facts h
    have := us_len p.n.toNat p.s p.o p.s.length
    unfold usd
    omega
  · simp

theorem rows_len {p : Pl} {N : Nat} (hN : p.n = N) : ((exps p.n.toNat p.s).map (pad p.n.toNat)).length = N + p.s.length := by
  rw [List.length_map, exps_length]
  omega
theorem box5 {w w1 : World} {a b c d : Value} {t : TypeId} (h : w.alloc (.cells #[a, b, c, d] t) = w1) : w1.heap.size = w.heap.size + 1 ∧ Below w.heap.size w w1 := (box4 h).2.2.2.2

end Go.Proofs.Ytbbjgcagkmlngaa
/- A plan with only some steps, in an order: the model's. -/
namespace Go.Proofs.Ytbbjgcagkmlngaa
open Go.RowKit

/-- Three stores into a plan's box. -/
theorem own_set3 {w : World} {g B sz n : Nat} {t e : TypeId} {v : Value} {xs : List Value} {cs : Array Value} (h : w.ownsRow B e sz v n xs) (hg : w.heap[g]? = some (.cells cs t (0, 0))) (ht : t ≠ e) (a b c : Value) :
    (((w.setCell ⟨g, 0, none⟩ a).setCell ⟨g, 1, none⟩ b).setCell ⟨g, 2, none⟩ c).ownsRow B e sz v n xs := by
  have h1 := own_set (o := 0) h hg ht a
  have k1 := heap_setCell_same w g 0 _ t a hg
  have h2 := own_set (o := 1) h1 k1 ht b
  have k2 := heap_setCell_same _ g 1 _ t b k1
  exact own_set (o := 2) h2 k2 ht c

end Go.Proofs.Ytbbjgcagkmlngaa
/- A plan with only some steps, in an order: the program's. -/
namespace Go.Proofs.Ytbbjgcagkmlngaa
open Go.RowKit

def nmOk (N : Nat) (t : List Int) (v : Int) : Bool := decide (v < N) || hasI t (v - N)
def nmI (N : Nat) (t : List Int) (v : Int) : Int := if v < N then v else if hasI t (v - N) then N + plc t (v - N) 0 else -1
def nmT (N m : Nat) (t : List Int) : List Int := (List.range (N + m)).map fun v : Nat => nmI N t (v : Int)
theorem nmT_length (N m : Nat) (t : List Int) : (nmT N m t).length = N + m := by simp [nmT]
theorem nmT_at (N m : Nat) (t : List Int) {v : Nat} (hv : v < N + m) : (nmT N m t)[v]'(by rw [nmT_length]; exact hv) = nmI N t (v : Int) := by simp [nmT]
theorem nm_bad {N : Nat} {t : List Int} {v : Int} (h : nmOk N t v = false) : nmI N t v = -1 := by
  unfold nmOk at h
  rw [Bool.or_eq_false_iff, decide_eq_false_iff_not] at h
  unfold nmI
  rw [if_neg h.1, if_neg (by rw [h.2]; decide)]
theorem nm_good {N : Nat} {l : List Int} {k : Nat} {v : Int} (h : nmOk N (l.take k) v = true) : nmI N (l.take k) v = numI N l v := by
  unfold nmOk at h
  unfold nmI numI
  by_cases hv : v < N
  · rw [if_pos hv, if_pos hv]
  · have h2 : hasI (l.take k) (v - N) = true := by
      rw [Bool.or_eq_true, decide_eq_true_eq] at h
      rcases h with h | h
      · exact absurd h hv
      · exact h
    rw [if_neg hv, if_neg hv, if_pos h2]
    have e := plc_app (l.take k) (l.drop k) (v - N) 0
    rw [List.take_append_drop, h2] at e
    rw [e]
    rfl
theorem nm_nonneg {N : Nat} {l : List Int} {v : Int} (h0 : 0 ≤ v) {k : Nat} (h : nmOk N (l.take k) v = true) : 0 ≤ numI N l v := by
  rw [← nm_good h]
  unfold nmOk at h
  unfold nmI
  by_cases hv : v < N
  · rw [if_pos hv]; exact h0
  · have h2 : hasI (l.take k) (v - N) = true := by
      rw [Bool.or_eq_true, decide_eq_true_eq] at h
      rcases h with h | h
      · exact absurd h hv
      · exact h
    rw [if_neg hv, if_pos h2]
    have := plc_nonneg h2 0
    omega
theorem nm_set {N m n k : Nat} {t : List Int} (ht : hasI t (n : Int) = false) (hk : t.length = k) : (nmT N m t).set (N + n) ((N : Int) + (k : Int)) = nmT N m (t ++ [(n : Int)]) := by
  apply List.ext_getElem?
  intro j
  by_cases hj : j < N + m
  · rw [show (nmT N m (t ++ [(n : Int)]))[j]? = some (nmI N (t ++ [(n : Int)]) (j : Int)) by simp [nmT, hj]]
    by_cases hjn : N + n = j
    · subst hjn
      rw [List.getElem?_set_self (by rw [nmT_length]; exact hj)]
      unfold nmI
      have e1 : ((N + n : Nat) : Int) - (N : Int) = (n : Int) := by omega
      have e2 : hasI (t ++ [(n : Int)]) (n : Int) = true := by simp [hasI]
      rw [if_neg (by omega), e1, if_pos e2, plc_app, ht]
      simp [plc, hk]
    · rw [List.getElem?_set_ne hjn, show (nmT N m t)[j]? = some (nmI N t (j : Int)) by simp [nmT, hj]]
      unfold nmI
      by_cases hjN : (j : Int) < (N : Int)
      · rw [if_pos hjN, if_pos hjN]
      · have e2 : hasI (t ++ [(n : Int)]) ((j : Int) - (N : Int)) = hasI t ((j : Int) - (N : Int)) := by
          unfold hasI
          rw [Bool.eq_iff_iff]
          simp
          omega
        rw [if_neg hjN, if_neg hjN, e2]
        by_cases hh : hasI t ((j : Int) - (N : Int)) = true
        · rw [if_pos hh, if_pos hh, plc_app, if_pos hh]
        · rw [if_neg hh, if_neg hh]
  · rw [List.getElem?_eq_none (by rw [List.length_set, nmT_length]; omega), List.getElem?_eq_none (by rw [nmT_length]; omega)]
theorem nm_start (N m : Nat) : ups N ++ List.replicate m (-1 : Int) = nmT N m [] := by
  apply List.ext_getElem?
  intro j
  by_cases hj : j < N + m
  · rw [show (nmT N m [])[j]? = some (nmI N [] (j : Int)) by simp [nmT, hj]]
    by_cases hjN : j < N
    · rw [List.getElem?_append_left (by rw [ups_length]; exact hjN)]
      have : (j : Int) < (N : Int) := by omega
      simp [ups, hjN, nmI, this]
    · rw [List.getElem?_append_right (by rw [ups_length]; omega), ups_length, List.getElem?_replicate, if_pos (by omega)]
      have : ¬ (j : Int) < (N : Int) := by omega
      simp [nmI, this, hasI]
  · rw [List.getElem?_eq_none (by simp [ups_length]; omega), List.getElem?_eq_none (by rw [nmT_length]; omega)]

def stepAt (p : Pl) (l : List Int) (i : Nat) : Int × Int := p.s.getD (l.getD i 0).toNat (0, 0)
def kOk (N : Nat) (p : Pl) (l : List Int) (k : Nat) : Bool := (List.range k).all fun i => nmOk N (l.take i) (stepAt p l i).1 && nmOk N (l.take i) (stepAt p l i).2
theorem stepAt_eq {p : Pl} {l : List Int} {k n : Nat} (hk : k < l.length) (hn : l[k] = (n : Int)) (hns : n < p.s.length) : stepAt p l k = p.s[n] := by
  unfold stepAt
  have : l.getD k 0 = (n : Int) := by simp [hk, hn]
  rw [this]
  simp [hns]
theorem kOk_succ (N : Nat) (p : Pl) (l : List Int) (k : Nat) : kOk N p l (k + 1) = (kOk N p l k && (nmOk N (l.take k) (stepAt p l k).1 && nmOk N (l.take k) (stepAt p l k).2)) := by
  unfold kOk
  rw [List.range_succ, List.all_append]
  simp
theorem kOk_false {N : Nat} {p : Pl} {l : List Int} {k : Nat} (hk : k < l.length) (h : (nmOk N (l.take k) (stepAt p l k).1 && nmOk N (l.take k) (stepAt p l k).2) = false) : kOk N p l l.length = false := by
  unfold kOk
  rw [List.all_eq_false]
  exact ⟨k, by simpa using hk, by rw [h]; decide⟩
def KeepPost (p : Pl) (N : Nat) (l : List Int) (w : World) (e : Ending) (w' : World) : Prop :=
  Below w.heap.size w w' ∧ (if kOk N p l l.length = true then ∃ B1 B2 d1 d2, e = .returned (.tuple #[.agg #[.int .i64 (N : Int), .slice B1 l.length d1, .slice B2 p.o.length d2], .bool true]) ∧ OwS w' w.heap.size (.slice B1 l.length d1) (keepS p N l l.length) ∧ OwI w' w.heap.size (.slice B2 p.o.length d2) (keepO p N l p.o.length)
    else e = .returned (.tuple #[.agg #[.int .i64 0, .slice none 0 0, .slice none 0 0], .bool false]))
theorem keepPost_none {p : Pl} {N : Nat} {l : List Int} {w w' : World} (h : kOk N p l l.length = false) (hb : Below w.heap.size w w') : KeepPost p N l w (.returned (.tuple #[.agg #[.int .i64 0, .slice none 0 0, .slice none 0 0], .bool false])) w' :=
  ⟨hb, by rw [if_neg (by rw [h]; decide)]⟩
theorem has_take_nodup {l : List Int} (hnd : l.Nodup) {k : Nat} (hk : k < l.length) : hasI (l.take k) l[k] = false := by
  unfold hasI
  simp only [List.contains_eq_mem, decide_eq_false_iff_not]
  intro hmem
  obtain ⟨i, hi, he⟩ := List.mem_iff_getElem.1 hmem
  rw [List.getElem_take] at he
  have hik : i < k := by simp at hi; omega
  have := (List.nodup_iff_pairwise_ne.1 hnd)
  rw [List.pairwise_iff_getElem] at this
  exact this i k (by omega) hk hik he

/-- A store into a row of another type. -/
theorem own_store_other {w : World} {B B' sz sz' n n' g o c' : Nat} {e e' : TypeId} {v : Value} {xs xs' : List Value} (h : w.ownsRow B e sz v n xs) (h' : w.ownsRow B' e' sz' (.slice (some ⟨g, 0, none⟩) n' c') n' xs') (hne : e' ≠ e) (u : Value) :
    (w.setCell ⟨g, o, none⟩ u).ownsRow B e sz v n xs := by
  rcases h'.2 with ⟨hv, _⟩ | ⟨g', cap, cur, hv, _, hg', _⟩
  · injection hv with hv _ _
    cases hv
  · injection hv with hv _ _
    injection hv with hv
    injection hv with hv _ _
    subst hv
    exact own_set h hg' hne u

end Go.Proofs.Ytbbjgcagkmlngaa
/- Trimmed plans: used steps are kept with all that they need. -/
namespace Go.Proofs.Ytbbjgcagkmlngaa
open Go.RowKit

theorem need_mono {N : Nat} {s : List (Int × Int)} {o : List Int} {x : Int} {j : Nat} : ∀ d, hasI (needI N s o j) x = true → hasI (needI N s o (j + d)) x = true := by
  intro d
  induction d with
  | zero => intro h; exact h
  | succ d ih =>
    intro h
    have ih := ih h
    show hasI (needI N s o (j + d + 1)) x = true
    simp only [needI]
    split
    · rw [hasI_two, ih]; rfl
    · exact ih
theorem usd_mem {N : Nat} {s : List (Int × Int)} {o : List Int} {x : Int} : x ∈ usd N s o ↔ ∃ i : Nat, i < s.length ∧ finI N s o i = true ∧ x = i := by
  unfold usd usT
  simp only [List.mem_map, List.mem_filter, List.mem_range'_1]
  constructor
  · rintro ⟨i, ⟨h1, h2⟩, rfl⟩
    exact ⟨i, by omega, h2, rfl⟩
  · rintro ⟨i, h1, h2, rfl⟩
    exact ⟨i, ⟨by omega, h2⟩, rfl⟩
theorem usd_sorted (N : Nat) (s : List (Int × Int)) (o : List Int) : (usd N s o).Pairwise (· < ·) := by
  unfold usd usT
  rw [List.pairwise_map]
  refine List.Pairwise.filter _ ?_
  refine List.Pairwise.imp ?_ (List.pairwise_lt_range' (s := s.length - s.length) (n := s.length) (step := 1))
  intro a b h
  omega
theorem usd_nodup (N : Nat) (s : List (Int × Int)) (o : List Int) : (usd N s o).Nodup := by
  rw [List.nodup_iff_pairwise_ne]
  exact List.Pairwise.imp (fun h => by omega) (usd_sorted N s o)
theorem take_of_lt {l : List Int} (hs : l.Pairwise (· < ·)) {k : Nat} (hk : k < l.length) {x : Int} (hx : x ∈ l) (hlt : x < l[k]) : hasI (l.take k) x = true := by
  unfold hasI
  simp only [List.contains_eq_mem, decide_eq_true_eq]
  obtain ⟨i, hi, rfl⟩ := List.mem_iff_getElem.1 hx
  rw [List.pairwise_iff_getElem] at hs
  have hik : i < k := by
    rcases Nat.lt_or_ge i k with h | h
    · exact h
    · exfalso
      rcases Nat.lt_or_eq_of_le h with h | h
      · have := hs k i hk hi h; omega
      · subst h; omega
  exact List.mem_iff_getElem.2 ⟨i, by simp; omega, by rw [List.getElem_take]⟩
theorem fin_of_has {N : Nat} {s : List (Int × Int)} {o : List Int} {x : Int} {j : Nat} (hj : j ≤ s.length) (h : hasI (needI N s o j) x = true) {i : Nat} (hx : x = (N : Int) + (i : Int)) : finI N s o i = true := by
  unfold finI
  rw [← hx]
  have := need_mono (s.length - j) h
  rwa [show j + (s.length - j) = s.length by omega] at this
theorem usd_cover {N : Nat} {s : List (Int × Int)} {o : List Int} (hout : ∀ x ∈ o, 0 ≤ x ∧ x < (N : Int) + s.length) : ∀ x ∈ o, nmOk N (usd N s o) x = true := by
  intro x hx
  obtain ⟨h1, h2⟩ := hout x hx
  unfold nmOk
  rw [Bool.or_eq_true, decide_eq_true_eq]
  by_cases hv : x < N
  · exact .inl hv
  · right
    have h0 : hasI (needI N s o 0) x = true := by
      unfold hasI
      simp [needI, hx]
    have hf := fin_of_has (by omega) h0 (i := (x - N).toNat) (by omega)
    unfold hasI
    simp only [List.contains_eq_mem, decide_eq_true_eq]
    exact usd_mem.2 ⟨(x - N).toNat, by omega, hf, by omega⟩
theorem usd_ok {N : Nat} {p : Pl} (hs : OkS N p.s) : kOk N p (usd N p.s p.o) (usd N p.s p.o).length = true := by
  unfold kOk
  rw [List.all_eq_true]
  intro k hk
  have hk : k < (usd N p.s p.o).length := by simpa using hk
  obtain ⟨n, hn, hf, he⟩ := usd_mem.1 (List.getElem_mem hk)
  obtain ⟨s1, s2, s3⟩ := hs n hn
  rw [stepAt_eq hk he hn]
  have hj : p.s.length - 1 - n < p.s.length := by omega
  have hat := fin_at (o := p.o) hs hj (i := n) (by omega)
  rw [hf] at hat
  have hneed := need_hit (o := p.o) hn (j := p.s.length - 1 - n) (by omega) hat.symm
  have one : ∀ v : Int, 0 ≤ v → v < N + n → hasI (needI N p.s p.o (p.s.length - 1 - n + 1)) v = true → nmOk N ((usd N p.s p.o).take k) v = true := by
    intro v h0 hv hh
    unfold nmOk
    rw [Bool.or_eq_true, decide_eq_true_eq]
    by_cases hvN : v < N
    · exact .inl hvN
    · right
      have hf2 := fin_of_has (by omega) hh (i := (v - N).toNat) (by omega)
      have hm : (v - N) ∈ usd N p.s p.o := usd_mem.2 ⟨(v - N).toNat, by omega, hf2, by omega⟩
      exact take_of_lt (usd_sorted _ _ _) hk hm (by rw [he]; omega)
  rw [Bool.and_eq_true]
  exact ⟨one _ s1 (by omega) (by rw [hneed, hasI_two]; simp), one _ (by omega) (by omega) (by rw [hneed, hasI_two]; simp)⟩
end Go.Proofs.Ytbbjgcagkmlngaa
/- TrimPlan, of the model and of the program. -/
namespace Go.Proofs.Ytbbjgcagkmlngaa
open Go.RowKit

def zeroP : Pl := ⟨0, [], []⟩
def trimR (p : Pl) : Pl := if good p then ⟨p.n, keepS p p.n.toNat (usd p.n.toNat p.s p.o) (usd p.n.toNat p.s p.o).length, keepO p p.n.toNat (usd p.n.toNat p.s p.o) p.o.length⟩ else zeroP
theorem trimR_good {p : Pl} {N : Nat} (h : good p = true) (hN : p.n = N) : trimR p = ⟨p.n, keepS p N (usd N p.s p.o) (usd N p.s p.o).length, keepO p N (usd N p.s p.o) p.o.length⟩ := by
  have : p.n.toNat = N := by omega
  unfold trimR
  rw [if_pos h, this]
theorem trimR_bad {p : Pl} (h : good p = false) : trimR p = zeroP := by
  unfold trimR
  rw [if_neg (by rw [h]; decide)]
theorem trimR_len (p : Pl) : (trimR p).s.length ≤ 1000 ∧ (trimR p).o.length ≤ 1000 := by
  cases h : good p with
  | false => rw [trimR_bad h]; simp [zeroP]
  | true =>
    obtain ⟨N, hN, _, _, h40, ho6, _⟩ := good_facts h
    rw [trimR_good h hN]
    have := us_len N p.s p.o p.s.length
    simp only
    rw [keepS_len p N _ (Nat.le_refl _), keepO_len p N _ (Nat.le_refl _)]
    unfold usd
    omega
theorem usd_in {N : Nat} {s : List (Int × Int)} {o : List Int} : ∀ x ∈ usd N s o, 0 ≤ x ∧ x < (s.length : Int) := by
  intro x hx
  obtain ⟨i, h1, _, rfl⟩ := usd_mem.1 hx
  omega
/-- Boxes of a plan that came in and of a plan that is answered. -/
theorem boxes2 {w w2 : World} {a b c : Value} {t : TypeId} (h : (w.alloc (.cells #[a, b, c] t)).alloc (.cells #[.int .i64 0, .slice none 0 0, .slice none 0 0] 36) = w2) :
    w2.heap[w.heap.size]? = some (.cells #[a, b, c] t (0, 0)) ∧ w2.heap[w.heap.size + 1]? = some (.cells #[.int .i64 0, .slice none 0 0, .slice none 0 0] 36 (0, 0)) ∧ w2.heap.size = w.heap.size + 2 ∧ Below w.heap.size w w2 := by
  subst h
  refine ⟨?_, ?_, by simp, ((Below.refl _ _).alloc (Nat.le_refl _) _).alloc (by simp) _⟩
  · rw [Below.heap_alloc _ _ _ (by simp)]; exact heap_alloc_new w _
  · have := heap_alloc_new (w.alloc (.cells #[a, b, c] t)) (.cells #[.int .i64 0, .slice none 0 0, .slice none 0 0] 36)
    simpa using this
theorem cells3 {w : World} {g : Nat} {a b c : Value} {t : TypeId} (h : w.heap[g]? = some (.cells #[a, b, c] t (0, 0))) :
    w.cell? ⟨g, 0, none⟩ = some a ∧ w.cell? ⟨g, 1, none⟩ = some b ∧ w.cell? ⟨g, 2, none⟩ = some c ∧ w.frozen? ⟨g, 0, none⟩ = false ∧ w.frozen? ⟨g, 1, none⟩ = false ∧ w.frozen? ⟨g, 2, none⟩ = false := by
  refine ⟨?_, ?_, ?_, frozen_of_row w _ 0 _ _ h, frozen_of_row w _ 1 _ _ h, frozen_of_row w _ 2 _ _ h⟩
  · rw [cell_of_row w _ 0 _ _ (0, 0) h]; rfl
  · rw [cell_of_row w _ 1 _ _ (0, 0) h]; rfl
  · rw [cell_of_row w _ 2 _ _ (0, 0) h]; rfl
theorem OwP.zero (w : World) (B : Nat) : OwP w B none none 0 0 zeroP := ⟨World.ownsRow_nil _ _ _ _, World.ownsRow_nil _ _ _ _⟩

theorem owP_of3 {w : World} {g B n m : Nat} {B1 B2 : Option Addr} {d1 d2 : Nat} {s : List (Int × Int)} {o : List Int} {z : Int} {t : TypeId} {cs : Array Value} (h : OwS w B (.slice B1 n d1) s) (h' : OwI w B (.slice B2 m d2) o) (hg : w.heap[g]? = some (.cells cs t (0, 0)))
    (ht : t ≠ 103) (ht' : t ≠ 3) (hn : s.length = n) (hm : o.length = m) (a b c : Value) :
    OwP (((w.setCell ⟨g, 0, none⟩ a).setCell ⟨g, 1, none⟩ b).setCell ⟨g, 2, none⟩ c) B B1 B2 d1 d2 ⟨z, s, o⟩ := by
  subst hn
  subst hm
  exact ⟨own_set3 h hg ht a b c, own_set3 h' hg ht' a b c⟩

end Go.Proofs.Ytbbjgcagkmlngaa
/- PickOutputs: what both sides answer; the model's. -/
namespace Go.Proofs.Ytbbjgcagkmlngaa
open Go.RowKit

theorem boxes2b {w w2 : World} {a b c : Value} {t : TypeId} (h : (w.alloc (.cells #[a, b, c] t)).alloc (.cells #[.int .i64 0, .slice none 0 0, .slice none 0 0] 36) = w2) :
    w2.heap[w.heap.size]? = some (.cells #[a, b, c] t (0, 0)) ∧ w2.heap[w.heap.size + 1]? = some (.cells #[.int .i64 0, .slice none 0 0, .slice none 0 0] 36 (0, 0)) ∧ w2.heap.size = w.heap.size + 2 ∧ Below w.heap.size w w2 := by
  subst h
  refine ⟨?_, ?_, by simp, ((Below.refl _ _).alloc (Nat.le_refl _) _).alloc (by simp) _⟩
  · rw [Below.heap_alloc _ _ _ (by simp)]; exact heap_alloc_new w _
  · have := heap_alloc_new (w.alloc (.cells #[a, b, c] t)) (.cells #[.int .i64 0, .slice none 0 0, .slice none 0 0] 36)
    simpa using this
theorem cells3b {w : World} {g : Nat} {a b c : Value} {t : TypeId} (h : w.heap[g]? = some (.cells #[a, b, c] t (0, 0))) :
    w.cell? ⟨g, 0, none⟩ = some a ∧ w.cell? ⟨g, 1, none⟩ = some b ∧ w.cell? ⟨g, 2, none⟩ = some c ∧ w.frozen? ⟨g, 0, none⟩ = false ∧ w.frozen? ⟨g, 1, none⟩ = false ∧ w.frozen? ⟨g, 2, none⟩ = false := by
  refine ⟨?_, ?_, ?_, frozen_of_row w _ 0 _ _ h, frozen_of_row w _ 1 _ _ h, frozen_of_row w _ 2 _ _ h⟩
  · rw [cell_of_row w _ 0 _ _ (0, 0) h]; rfl
  · rw [cell_of_row w _ 1 _ _ (0, 0) h]; rfl
  · rw [cell_of_row w _ 2 _ _ (0, 0) h]; rfl
def selV (b : Bool) (x y : Value) : Value := if b then x else y
def zeroQ : Pl := ⟨0, [], []⟩
theorem OwP.zeroQ (w : World) (B : Nat) : OwP w B none none 0 0 zeroQ := ⟨World.ownsRow_nil _ _ _ _, World.ownsRow_nil _ _ _ _⟩

def pickO (p : Pl) (l : List Int) (k : Nat) : List Int := (l.take k).map fun i => p.o.getD i.toNat 0
def pickB (p : Pl) (l : List Int) : Bool := good p && (allB l 0 ((p.o.length : Int) - 1) && decide (l.length ≤ 6))
def pickR (p : Pl) (l : List Int) : Pl := if pickB p l then ⟨p.n, p.s, pickO p l l.length⟩ else zeroQ
theorem pickO_len (p : Pl) (l : List Int) {k : Nat} (hk : k ≤ l.length) : (pickO p l k).length = k := by simp [pickO]; omega
theorem pickO_succ {p : Pl} {l : List Int} {k v : Nat} (hk : k < l.length) (hv : l[k] = (v : Int)) (hvl : v < p.o.length) : pickO p l (k + 1) = pickO p l k ++ [p.o[v]] := by
  unfold pickO
  rw [List.take_succ_eq_append_getElem hk, List.map_append, hv]
  simp [hvl]
theorem pickR_len (p : Pl) (l : List Int) : (pickR p l).s.length ≤ 1000 ∧ (pickR p l).o.length ≤ 1000 := by
  unfold pickR
  split
  · rename_i h
    unfold pickB at h
    simp only [Bool.and_eq_true, decide_eq_true_eq] at h
    obtain ⟨_, _, _, _, h40, _⟩ := good_facts h.1
    simp only
    rw [pickO_len p l (Nat.le_refl _)]
    omega
  · simp [zeroQ]
theorem all_in {l : List Int} {m : Int} (h : allB l 0 m = true) : ∀ x ∈ l, 0 ≤ x ∧ x ≤ m := by
  intro x hx
  unfold allB at h
  rw [List.all_eq_true] at h
  have := h x hx
  simpa [inB] using this
/-- The plan with picked outputs is a plan, unless there are too many of them. -/
theorem good_pick {p : Pl} {l : List Int} (hg : good p = true) (ha : allB l 0 ((p.o.length : Int) - 1) = true) : good ⟨p.n, p.s, pickO p l l.length⟩ = decide (l.length ≤ 6) := by
  have hin := all_in ha
  have hlen := pickO_len p l (Nat.le_refl _)
  have ho : allB (pickO p l l.length) 0 (p.n + p.s.length - 1) = true := by
    unfold good at hg
    simp only [Bool.and_eq_true] at hg
    have hall := hg.2.2.2.2.2
    unfold allB at hall ⊢
    rw [List.all_eq_true] at hall ⊢
    intro x hx
    unfold pickO at hx
    rw [List.take_of_length_le (Nat.le_refl _)] at hx
    obtain ⟨i, hi, rfl⟩ := List.mem_map.1 hx
    obtain ⟨h0, h1⟩ := hin i hi
    have hlt : i.toNat < p.o.length := by omega
    have e : p.o.getD i.toNat 0 = p.o[i.toNat] := by simp [hlt]
    rw [e]
    exact hall _ (List.getElem_mem hlt)
  unfold good at hg ⊢
  simp only [Bool.and_eq_true] at hg
  obtain ⟨g1, g2, _, g4, g5, _⟩ := hg
  simp only [g1, g2, g4, g5, ho, hlen, Bool.true_and, Bool.and_true]

end Go.Proofs.Ytbbjgcagkmlngaa
/- A new row with room: the library's slices.Grow at the nil slice. -/
namespace Go.Proofs.Ytbbjgcagkmlngaa
open Go.RowKit

end Go.Proofs.Ytbbjgcagkmlngaa
/- Two lists behind each other: the library's slices.Concat. -/
namespace Go.Proofs.Ytbbjgcagkmlngaa
open Go.RowKit

def catLI (a b : List Int) (k : Nat) : List Int := match k with | 0 => [] | 1 => a | _ => a ++ b

end Go.Proofs.Ytbbjgcagkmlngaa
/- The uses of one value, and of all values, by the program. -/
namespace Go.Proofs.Ytbbjgcagkmlngaa
open Go.RowKit

set_option maxRecDepth 100000 in
set_option maxHeartbeats 1000000 in
theorem sidesOf_any (a b v : Int) (w : World) :
    Calls Try.prog 155 #[.agg #[.int .i64 a, .int .i64 b], .int .i64 v] w fun e w' => e = .returned (.int .i64 (sid (a, b) v : Nat)) ∧ Below w.heap.size w w' := by
  have e0 : sid (a, b) v = (if a = v then 1 else 0) + (if b = v then 1 else 0) := rfl
  by_cases ha : a = v
  · by_cases hb : b = v
    · have q1 : (a == v) = true := by simpa using ha
      have q2 : (b == v) = true := by simpa using hb
      rw [if_pos ha, if_pos hb] at e0
      have E := Lib.hid e0
      clear e0 ha hb
      go_enter Try.func155, Try.ntmps155
      go_wp2
      go_ret
      exact ⟨by rw [E.out]; rfl, (Below.refl _ _).alloc (Nat.le_refl _) _⟩
    · have q1 : (a == v) = true := by simpa using ha
      have q2 : (b == v) = false := by simpa using hb
      rw [if_pos ha, if_neg hb] at e0
      have E := Lib.hid e0
      clear e0 ha hb
      go_enter Try.func155, Try.ntmps155
      go_wp2
      go_ret
      exact ⟨by rw [E.out]; rfl, (Below.refl _ _).alloc (Nat.le_refl _) _⟩
  · by_cases hb : b = v
    · have q1 : (a == v) = false := by simpa using ha
      have q2 : (b == v) = true := by simpa using hb
      rw [if_neg ha, if_pos hb] at e0
      have E := Lib.hid e0
      clear e0 ha hb
      go_enter Try.func155, Try.ntmps155
      go_wp2
      go_ret
      exact ⟨by rw [E.out]; rfl, (Below.refl _ _).alloc (Nat.le_refl _) _⟩
    · have q1 : (a == v) = false := by simpa using ha
      have q2 : (b == v) = false := by simpa using hb
      rw [if_neg ha, if_neg hb] at e0
      have E := Lib.hid e0
      clear e0 ha hb
      go_enter Try.func155, Try.ntmps155
      go_wp2
      go_ret
      exact ⟨by rw [E.out]; rfl, (Below.refl _ _).alloc (Nat.le_refl _) _⟩

theorem us_set0 {w : World} {g : Nat} {a b : Value} {t : TypeId} (h : w.heap[g]? = some (.cells #[a, b] t (0, 0))) (u : Value) : (w.setCell ⟨g, 0, none⟩ u).heap[g]? = some (.cells #[u, b] t (0, 0)) := by
  rw [heap_setCell_same w g 0 _ t u h]
  rfl
theorem us_set1 {w : World} {g : Nat} {a b : Value} {t : TypeId} (h : w.heap[g]? = some (.cells #[a, b] t (0, 0))) (u : Value) : (w.setCell ⟨g, 1, none⟩ u).heap[g]? = some (.cells #[a, u] t (0, 0)) := by
  rw [heap_setCell_same w g 1 _ t u h]
  rfl

theorem apart_lt {w : World} {v v' : Value} {m sz n : Nat} {e : TypeId} {xs : List Value} (h : ∀ k, v.ownBlock = some k → k < m) (h' : w.ownsRow m e sz v' n xs) : v.ownBlock = none ∨ v.ownBlock ≠ v'.ownBlock := by
  cases hv : v.ownBlock with
  | none => exact .inl rfl
  | some k =>
    right
    intro e
    have h1 := h k hv
    have h2 := (own_block h' k e.symm).1
    omega
theorem us_boxes {w w1 : World} {a b c d : Value} (h : ((w.alloc (.cells #[a, b, c, d] 98)).alloc (.cells #[.slice none 0 0, .slice none 0 0] 162)).alloc (.cells #[.slice none 0 0, .slice none 0 0] 162) = w1) :
    w1.cell? ⟨w.heap.size, 1, none⟩ = some b ∧ w1.cell? ⟨w.heap.size, 2, none⟩ = some c ∧ w1.heap[w.heap.size + 1]? = some (.cells #[.slice none 0 0, .slice none 0 0] 162 (0, 0)) ∧
      w1.heap[w.heap.size + 1 + 1]? = some (.cells #[.slice none 0 0, .slice none 0 0] 162 (0, 0)) ∧ w1.heap.size = w.heap.size + 3 ∧ Below w.heap.size w w1 := by
  generalize ha : w.alloc (.cells #[a, b, c, d] 98) = wa at h
  generalize hb : wa.alloc (.cells #[.slice none 0 0, .slice none 0 0] 162) = wb at h
  obtain ⟨x0, x1, x2, x3, xs, xb⟩ := box4 ha
  obtain ⟨_, _, ys, yb⟩ := box2 hb
  obtain ⟨_, _, zs, zb⟩ := box2 h
  have h2 := heap_alloc_new wa (.cells #[.slice none 0 0, .slice none 0 0] 162)
  have h3 := heap_alloc_new wb (.cells #[.slice none 0 0, .slice none 0 0] 162)
  rw [hb, xs] at h2
  rw [h, ys, xs] at h3
  have yz : Below (w.heap.size + 1) wa w1 := (yb.mono (by omega)).trans (zb.mono (by omega))
  refine ⟨(yz.cell (p := ⟨w.heap.size, 1, none⟩) (by simp)).trans x1, (yz.cell (p := ⟨w.heap.size, 2, none⟩) (by simp)).trans x2, (zb.block (w.heap.size + 1) (by omega)).trans h2, h3, by omega, xb.trans (yz.mono (by omega))⟩

set_option maxRecDepth 100000 in
set_option maxHeartbeats 4000000 in
theorem usesOf_any (B N R : Nat) (A1 A2 A : Option Addr) (c1 c2 c : Nat) (p : Pl) (v : Int) (w : World) (hs40 : p.s.length ≤ 40) (ho6 : p.o.length ≤ 6) (hB : B ≤ w.heap.size) (hr : RdP w B A1 A2 p) :
    Calls Try.prog 151 #[.agg #[.int .i64 N, .slice A1 p.s.length c1, .slice A2 p.o.length c2, .slice A R c], .int .i64 v] w fun e w' =>
      ∃ O co S cs, e = .returned (.agg #[.slice O (usO p.o v p.o.length).length co, .slice S (usS p.s v p.s.length).length cs]) ∧
        OwI w' w.heap.size (.slice O (usO p.o v p.o.length).length co) (usO p.o v p.o.length) ∧ OwI w' w.heap.size (.slice S (usS p.s v p.s.length).length cs) (usS p.s v p.s.length) ∧ Below w.heap.size w w' := by
  have H := Lib.hid hr
  clear hr
  go_enter Try.func151, Try.ntmps151
  go_wp2
  generalize hw1 : World.alloc (World.alloc (World.alloc w _) _) _ = w1
  obtain ⟨x1, x2, RES1, BLK1, xs, xb⟩ := us_boxes hw1
  clear hw1
  obtain ⟨g, hg⟩ : ∃ g, w.heap.size + 1 + 1 = g := ⟨_, rfl⟩
  rw [hg] at BLK1 ⊢
  obtain ⟨q, hq⟩ : ∃ q, w.heap.size + 1 = q := ⟨_, rfl⟩
  rw [hq] at RES1 ⊢
  have hgw : w.heap.size ≤ g := by omega
  have hqw : w.heap.size ≤ q := by omega
  have hqg : q < g := by omega
  have hw1s : w1.heap.size = g + 1 := by omega
  clear hg hq xs
  go_loopw [14] (fun iv wr => ∃ (k : Nat) (A4 : Option Addr) (c4 : Nat), k ≤ p.o.length ∧ iv = .int .i64 k ∧ wr.heap[g]? = some (.cells #[.slice A4 (usO p.o v k).length c4, .slice none 0 0] 162 (0, 0)) ∧
    OwI wr (g + 1) (.slice A4 (usO p.o v k).length c4) (usO p.o v k) ∧ Below g w1 wr) (fun i _ => p.o.length - (intOf i).toNat)
  case atStart => exact ⟨0, none, 0, by omega, rfl, by simpa [usO] using BLK1, by simpa [usO] using OwI.nil w1 (g + 1), Below.refl _ _⟩
  case round =>
    obtain ⟨k, A4, c4, hk, rfl, hblk, hown, hbel⟩ := hrel
    have hsz : g + 1 ≤ wr.heap.size := by have := hbel.size; omega
    have hul := usO_le p.o v k
    by_cases hlt : k < p.o.length
    · obtain ⟨ob, oo, rfl, hob, hoc⟩ := ((H.out.2.below' xb hB).below' hbel (by omega)).int hlt
      have iqk : (k : Int) < (p.o.length : Int) := by omega
      have hst : p.o.getD k 0 = p.o[k] := by simp [hlt]
      obtain ⟨d0, d1, g0, g1⟩ := us_cells hblk
      have BLK := Lib.hid hblk
      have OWN := Lib.hid hown
      have BEL := Lib.hid hbel
      have XB := Lib.hid xb
      clear hblk hown hbel xb BLK1 RES1
      by_cases he : p.o[k] = v
      · have q : (p.o[k] == v) = true := by simpa using he
        have HIT := Lib.hid (usO_hit (hst.trans he))
        clear hst he
        go_wp2_with (at_builtin; refine list_step (fun K hK => ?_); refine step_app_int rfl (.tmp 23) (.tmp 25) rfl (g + 1) (usO p.o v k).length _ (usO p.o v k) rfl (OWN.out.alloc _) rfl wr.heap.size 1 (k : Int) rfl (by simp) (by omega) (by simp; omega) ?_; intro A5 c5 w5 hown5 hg5 hbel5; have hb5 := us_kept BLK.out OWN.out hg5; obtain ⟨e0, e1, h0, h1⟩ := us_cells hb5; go_simp; refine hK _ _ ?_; clear hK K)
        go_roundw
        case rel =>
          have hl : (usO p.o v (k + 1)).length = (usO p.o v k).length + 1 := by rw [HIT.out]; simp
          refine ⟨k + 1, A5, c5, by omega, by go_num, by rw [hl]; exact us_set0 hb5 _, by rw [hl, HIT.out]; exact own_set (h := hown5) hb5 (by decide) _, ?_⟩
          exact (((BEL.out.alloc (by omega) _)).trans (hbel5.mono (by omega))).setCell (Nat.le_refl _) _
        case measure => simp [intOf]; omega
      · have q : (p.o[k] == v) = false := by simpa using he
        have MISS := Lib.hid (usO_miss (v := v) (o := p.o) (k := k) (by rw [hst]; exact he))
        clear hst he
        go_wp2
        go_roundw
        case rel => exact ⟨k + 1, A4, c4, by omega, by go_num, by rw [MISS.out]; exact BLK.out, by rw [MISS.out]; exact OWN.out, BEL.out⟩
        case measure => simp [intOf]; omega
    · have hk' : k = p.o.length := by omega
      subst hk'
      have z1 := (hbel.cell (p := ⟨w.heap.size, 1, none⟩) (by simp; omega)).trans x1
      have RESr := Lib.hid ((hbel.block q (by omega)).trans RES1)
      have HB2 := Lib.hid (xb.trans (hbel.mono hgw))
      have hOB := fun k hk => (own_block hown k hk).2
      have OWN := Lib.hid hown
      have BLK := Lib.hid hblk
      have OBL := Lib.hid hOB
      obtain ⟨lo, hlo⟩ : ∃ l, usO p.o v p.o.length = l := ⟨_, rfl⟩
      rw [hlo] at OWN BLK OBL
      have HLO := Lib.hid hlo
      clear hown hblk hbel hOB hlo xb x1 x2 RES1 BLK1
      obtain ⟨m, hm⟩ : ∃ m, wr.heap.size = m := ⟨_, rfl⟩
      rw [hm] at OBL hsz
      have HMm := Lib.hid hm
      clear hm
      go_wp2
      go_loopw [33] (fun iv wq => ∃ (k : Nat) (A5 : Option Addr) (c5 : Nat), k ≤ p.s.length ∧ iv = .int .i64 k ∧ wq.heap[g]? = some (.cells #[.slice A4 lo.length c4, .slice A5 (usS p.s v k).length c5] 162 (0, 0)) ∧
        OwI wq (g + 1) (.slice A4 lo.length c4) lo ∧ OwI wq m (.slice A5 (usS p.s v k).length c5) (usS p.s v k) ∧ Below g wr wq) (fun i _ => p.s.length - (intOf i).toNat)
      case atStart => exact ⟨0, none, 0, by omega, rfl, by simpa [usS] using BLK.out, OWN.out, by simpa [usS] using OwI.nil wr m, Below.refl _ _⟩
      case round =>
        obtain ⟨k, A5, c5, hk, rfl, hblk, hownO, hownS, hbel⟩ := hrel
        have hsr := hbel.size
        have hsq : g + 1 ≤ wr.heap.size := by have := HMm.out; omega
        have hmq : m ≤ wr.heap.size := by have := HMm.out; omega
        by_cases hlt : k < p.s.length
        · obtain ⟨sb, off, rfl, hsb, hc1, hc2⟩ := ((H.out.1.below' HB2.out hB).below' hbel (by omega)).stp hlt
          have iqk : (k : Int) < (p.s.length : Int) := by omega
          have hst : p.s.getD k (0, 0) = p.s[k] := by simp [hlt]
          have SUC := Lib.hid (show usS p.s v (k + 1) = usS p.s v k ++ List.replicate (sid p.s[k] v) (k : Int) by rw [← hst]; rfl)
          obtain ⟨a, ha⟩ : ∃ a, (p.s[k]).1 = a := ⟨_, rfl⟩
          obtain ⟨b, hb⟩ : ∃ b, (p.s[k]).2 = b := ⟨_, rfl⟩
          have hab : p.s[k] = (a, b) := by rw [← ha, ← hb]
          rw [hab] at SUC
          rw [ha] at hc1
          rw [hb] at hc2
          have hsd := sid_le (a, b) v
          have hsl := usS_le p.s v k
          have SD := fun W => sidesOf_any a b v W
          obtain ⟨n, hn⟩ : ∃ n, sid (a, b) v = n := ⟨_, rfl⟩
          rw [hn] at SUC hsd SD
          have SD := Lib.hid SD
          obtain ⟨l, hl⟩ : ∃ l, usS p.s v k = l := ⟨_, rfl⟩
          rw [hl] at SUC hsl hblk hownS
          have BLK2 := Lib.hid hblk
          have OWO := Lib.hid hownO
          have OWS := Lib.hid hownS
          have BEL := Lib.hid hbel
          clear hblk hownO hownS hbel hst ha hb hab hn hl
          go_wp2_with fail
          go_at_call 155
          generalize hw3 : World.alloc wr _ = w3
          obtain ⟨_, _, es, eb⟩ := box2 hw3
          clear hw3
          refine (SD.out w3).mono ?_
          rintro e w4 ⟨rfl, hb4⟩
          have hb14 : Below wr.heap.size wr w4 := eb.trans (hb4.mono (by omega))
          have BLK4 := Lib.hid ((hb14.block g (by omega)).trans BLK2.out)
          have OWO4 := Lib.hid (OWO.out.below hb14)
          have OWS4 := Lib.hid (OWS.out.below hb14)
          have BEL4 := Lib.hid (BEL.out.trans (hb14.mono (by omega)))
          have hs4 : wr.heap.size ≤ w4.heap.size := hb14.size
          clear eb es hb4 hb14
          go_wp2
          go_loopw [41] (fun iv wt => ∃ (t : Nat) (A6 : Option Addr) (c6 : Nat), t ≤ n ∧ iv = .int .i64 t ∧ wt.heap[g]? = some (.cells #[.slice A4 lo.length c4, .slice A6 (l.length + t) c6] 162 (0, 0)) ∧
            OwI wt (g + 1) (.slice A4 lo.length c4) lo ∧ wt.ownsRow m 3 1 (.slice A6 (l.length + t) c6) (l.length + t) ((l ++ List.replicate t (k : Int)).map I) ∧ Below g w4 wt) (fun i _ => n - (intOf i).toNat)
          case atStart => exact ⟨0, A5, c5, by omega, rfl, BLK4.out, OWO4.out, by simpa [OwI] using OWS4.out, Below.refl _ _⟩
          case round =>
            obtain ⟨t, A6, c6, ht, rfl, hblk, hownO, hownS, hbel⟩ := hrel
            have hst4 : w4.heap.size ≤ wr.heap.size := hbel.size
            obtain ⟨d0, d1, g0, g1⟩ := us_cells hblk
            have BLK5 := Lib.hid hblk
            have OWO5 := Lib.hid hownO
            have OWS5 := Lib.hid hownS
            have BEL5 := Lib.hid hbel
            clear hblk hownO hownS hbel
            by_cases htl : t < n
            · have iqt : (t : Int) < (n : Int) := by omega
              have hll : (l ++ List.replicate t (k : Int)).length = l.length + t := by simp
              have HLL := Lib.hid hll
              clear hll
              go_wp2_with (at_builtin; refine list_step (fun K hK => ?_); refine step_app1 Try.underlying22 info_int rfl (by omega) rfl (.tmp 44) (.tmp 46) rfl m (l.length + t) _ _ rfl (World.ownsRow.alloc OWS5.out _) wr.heap.size 1 (I (k : Int)) rfl (by simp) rfl (by omega) (by simp; omega) ?_; intro A7 c7 w5 hown5 hg5 hbel5; have hb5 := us_kept BLK5.out OWS5.out hg5; have hO5 := World.ownsRow.kept (World.ownsRow.alloc OWO5.out _) hg5 (apart_lt OBL.out OWS5.out); obtain ⟨e0, e1, h0, h1⟩ := us_cells hb5; go_simp; refine hK _ _ ?_; clear hK K)
              go_roundw
              case rel =>
                refine ⟨t + 1, A7, c7, by omega, by go_num, us_set1 hb5 _, own_set (h := hO5) hb5 (by decide) _, ?_, ?_⟩
                · have h := own_set (g := g) (o := 1) hown5 hb5 (by decide) (.slice A7 (l.length + t + 1) c7)
                  have e : (l ++ List.replicate t (k : Int)).map I ++ [I (k : Int)] = (l ++ List.replicate (t + 1) (k : Int)).map I := by
                    simp [List.replicate_succ']
                  rw [e] at h
                  exact h
                · exact (((BEL5.out.alloc (by omega) _)).trans (hbel5.mono (by omega))).setCell (Nat.le_refl _) _
              case measure => simp [intOf]; omega
            · have ht' : t = n := by omega
              subst ht'
              go_wp2
              go_roundw
              case rel =>
                have hll : (usS p.s v (k + 1)).length = l.length + t := by rw [SUC.out]; simp
                refine ⟨k + 1, A6, c6, by omega, by go_num, by rw [hll]; exact BLK5.out, OWO5.out, ?_, BEL4.out.trans BEL5.out⟩
                show World.ownsRow _ _ _ _ _ _ _
                rw [hll, SUC.out]
                exact OWS5.out
              case measure => simp [intOf]; omega
        · have hk' : k = p.s.length := by omega
          subst hk'
          obtain ⟨d0, d1, _, _⟩ := us_cells hblk
          have RESq := (hbel.block q hqg).trans RESr.out
          obtain ⟨_, _, f0, f1⟩ := us_cells RESq
          have BLK2 := Lib.hid hblk
          have OWO := Lib.hid hownO
          have OWS := Lib.hid hownS
          have HB3 := Lib.hid (HB2.out.trans (hbel.mono hgw))
          have RESQ := Lib.hid RESq
          obtain ⟨r0, r1, _, _⟩ := us_cells RESq
          clear hblk hownO hownS hbel RESq
          go_wp2
          have hq1 := us_set0 RESQ.out (.slice A4 lo.length c4)
          refine bodyPost_ret (v := .agg #[.slice A4 lo.length c4, .slice A5 (usS p.s v p.s.length).length c5]) (by simp [results, Try.results151, go_sem, r0, r1]) rfl ⟨A4, c4, A5, c5, by rw [HLO.out], ?_, ?_, ?_⟩
          · rw [HLO.out]
            exact own_base (own_set (own_set (h := OWO.out) RESQ.out (by decide) _) hq1 (by decide) _) (by omega)
          · exact own_base (own_set (own_set (h := OWS.out) RESQ.out (by decide) _) hq1 (by decide) _) (by omega)
          · exact (HB3.out.setCell hqw _).setCell hqw _
end Go.Proofs.Ytbbjgcagkmlngaa
/- The uses of all values, by the program. -/
namespace Go.Proofs.Ytbbjgcagkmlngaa
open Go.RowKit

theorem fill2 (l : List Value) (z a b : Value) {n k : Nat} (hl : l.length = k * 2) (hk : k < n) :
    ((l ++ List.replicate ((n - k) * 2) z).set (k * 2) a).set (k * 2 + 1) b = l ++ [a, b] ++ List.replicate ((n - (k + 1)) * 2) z := by
  rw [show (n - k) * 2 = (n - (k + 1)) * 2 + 1 + 1 by omega, List.replicate_succ, List.replicate_succ, List.set_append_right _ _ (by omega), List.set_append_right _ _ (by omega), hl, Nat.sub_self, show k * 2 + 1 - k * 2 = 1 by omega]
  simp
theorem info_uses : (Try.prog.info? 162).map (fun i => (i.zero, i.size, i.bytes)) = some (some (.agg #[.slice none 0 0, .slice none 0 0]), 2, 48) := by kernel_rfl

def uuV (fo fs : Nat → Option Addr × Nat) (s : List (Int × Int)) (o : List Int) (i : Nat) : List Value :=
  [.slice (fo i).1 (usO o (i : Int) o.length).length (fo i).2, .slice (fs i).1 (usS s (i : Int) s.length).length (fs i).2]
def UU (fo fs : Nat → Option Addr × Nat) (s : List (Int × Int)) (o : List Int) (k : Nat) : List Value := (List.range k).flatMap (uuV fo fs s o)
def updU (f : Nat → Option Addr × Nat) (k : Nat) (a : Option Addr × Nat) : Nat → Option Addr × Nat := fun i => if i = k then a else f i
theorem UU_succ (fo fs : Nat → Option Addr × Nat) (s : List (Int × Int)) (o : List Int) (k : Nat) : UU fo fs s o (k + 1) = UU fo fs s o k ++ uuV fo fs s o k := by
  unfold UU
  rw [List.range_succ, List.flatMap_append]
  simp
theorem UU_len (fo fs : Nat → Option Addr × Nat) (s : List (Int × Int)) (o : List Int) (k : Nat) : (UU fo fs s o k).length = k * 2 := by
  induction k with
  | zero => rfl
  | succ k ih => rw [UU_succ, List.length_append, ih]; simp [uuV]; omega
theorem UU_at (fo fs : Nat → Option Addr × Nat) (s : List (Int × Int)) (o : List Int) {i k : Nat} (h : i < k) :
    (UU fo fs s o k)[i * 2]? = some (.slice (fo i).1 (usO o (i : Int) o.length).length (fo i).2) ∧ (UU fo fs s o k)[i * 2 + 1]? = some (.slice (fs i).1 (usS s (i : Int) s.length).length (fs i).2) := by
  induction k with
  | zero => omega
  | succ k ih =>
    rw [UU_succ]
    rcases Nat.lt_or_ge i k with h1 | h1
    · obtain ⟨e1, e2⟩ := ih h1
      have hl := UU_len fo fs s o k
      exact ⟨by rw [List.getElem?_append_left (by omega), e1], by rw [List.getElem?_append_left (by omega), e2]⟩
    · have e : i = k := by omega
      subst e
      have hl := UU_len fo fs s o i
      exact ⟨by rw [List.getElem?_append_right (by omega), hl, Nat.sub_self]; rfl, by rw [List.getElem?_append_right (by omega), hl, show i * 2 + 1 - i * 2 = 1 by omega]; rfl⟩
theorem UU_upd (fo fs : Nat → Option Addr × Nat) (s : List (Int × Int)) (o : List Int) (k : Nat) (a b : Option Addr × Nat) :
    UU (updU fo k a) (updU fs k b) s o (k + 1) = UU fo fs s o k ++ [.slice a.1 (usO o (k : Int) o.length).length a.2, .slice b.1 (usS s (k : Int) s.length).length b.2] := by
  have key : ∀ j, j ≤ k → UU (updU fo k a) (updU fs k b) s o j = UU fo fs s o j := by
    intro j
    induction j with
    | zero => intro _; rfl
    | succ j ih =>
      intro hj
      rw [UU_succ, UU_succ, ih (by omega)]
      have : ¬ j = k := by omega
      simp [uuV, updU, this]
  rw [UU_succ, key k (Nat.le_refl _)]
  simp [uuV, updU]
/-- Rows of outputs and of steps, of the first k values. -/
def OwX (w : World) (B : Nat) (fo fs : Nat → Option Addr × Nat) (s : List (Int × Int)) (o : List Int) (k : Nat) : Prop :=
  ∀ i : Nat, i < k → OwI w B (.slice (fo i).1 (usO o (i : Int) o.length).length (fo i).2) (usO o (i : Int) o.length) ∧ OwI w B (.slice (fs i).1 (usS s (i : Int) s.length).length (fs i).2) (usS s (i : Int) s.length)
/-- A list of the uses of R values, all of it own. -/
def OwU (w : World) (B : Nat) (A : Option Addr) (c : Nat) (fo fs : Nat → Option Addr × Nat) (s : List (Int × Int)) (o : List Int) (R : Nat) : Prop :=
  w.ownsRow B 162 2 (.slice A R c) R (UU fo fs s o R) ∧ OwX w B fo fs s o R
section
variable {w w' : World} {B B' c k R : Nat} {A : Option Addr} {fo fs : Nat → Option Addr × Nat} {s : List (Int × Int)} {o : List Int}
theorem OwX.below (h : OwX w B fo fs s o k) (hb : Below w.heap.size w w') : OwX w' B fo fs s o k := fun i hi => ⟨(h i hi).1.below hb, (h i hi).2.below hb⟩
theorem OwX.base (h : OwX w B fo fs s o k) (hB : B' ≤ B) : OwX w B' fo fs s o k := fun i hi => ⟨(h i hi).1.base hB, (h i hi).2.base hB⟩
theorem OwX.set {g j : Nat} {cs : Array Value} {t : TypeId} (h : OwX w B fo fs s o k) (hg : w.heap[g]? = some (.cells cs t (0, 0))) (ht : t ≠ 3) (u : Value) : OwX (w.setCell ⟨g, j, none⟩ u) B fo fs s o k :=
  fun i hi => ⟨own_set (h := (h i hi).1) hg ht u, own_set (h := (h i hi).2) hg ht u⟩
theorem OwX.upd {a b : Option Addr × Nat} (h : OwX w B fo fs s o k) (ha : OwI w B (.slice a.1 (usO o (k : Int) o.length).length a.2) (usO o (k : Int) o.length)) (hb : OwI w B (.slice b.1 (usS s (k : Int) s.length).length b.2) (usS s (k : Int) s.length)) :
    OwX w B (updU fo k a) (updU fs k b) s o (k + 1) := by
  intro i hi
  by_cases e : i = k
  · subst e
    simp only [updU, if_true]
    exact ⟨ha, hb⟩
  · have := h i (by omega)
    simp only [updU, if_neg e]
    exact this
theorem OwU.below (h : OwU w B A c fo fs s o R) (hb : Below w.heap.size w w') : OwU w' B A c fo fs s o R := ⟨own_below h.1 hb, h.2.below hb⟩
theorem OwU.base (h : OwU w B A c fo fs s o R) (hB : B' ≤ B) : OwU w B' A c fo fs s o R := ⟨own_base h.1 hB, h.2.base hB⟩
/-- The two cells of value i, and its rows. -/
theorem OwU.at_ (h : OwU w B A c fo fs s o R) {i : Nat} (hi : i < R) : ∃ g, A = some ⟨g, 0, none⟩ ∧ B ≤ g ∧ g < w.heap.size ∧
    w.cell? ⟨g, i * 2, none⟩ = some (.slice (fo i).1 (usO o (i : Int) o.length).length (fo i).2) ∧ w.cell? ⟨g, i * 2 + 1, none⟩ = some (.slice (fs i).1 (usS s (i : Int) s.length).length (fs i).2) := by
  obtain ⟨g, rfl, hB, hg, hc, _⟩ := own_at h.1 (by omega)
  obtain ⟨e1, e2⟩ := UU_at fo fs s o hi
  exact ⟨g, rfl, hB, hg, (hc _ (by omega)).trans e1, (hc _ (by omega)).trans e2⟩
end

set_option maxRecDepth 100000 in
set_option maxHeartbeats 4000000 in
theorem allUses_any (B N R : Nat) (A1 A2 A : Option Addr) (c1 c2 c : Nat) (p : Pl) (w : World) (hs40 : p.s.length ≤ 40) (ho6 : p.o.length ≤ 6) (hR : R ≤ 46) (hB : B ≤ w.heap.size) (hr : RdP w B A1 A2 p) :
    Calls Try.prog 146 #[.agg #[.int .i64 N, .slice A1 p.s.length c1, .slice A2 p.o.length c2, .slice A R c]] w fun e w' =>
      ∃ A' c' fo fs, e = .returned (.slice A' R c') ∧ OwU w' w.heap.size A' c' fo fs p.s p.o R ∧ Below w.heap.size w w' := by
  have H := Lib.hid hr
  clear hr
  obtain ⟨i0, hi, hz0, hz1, hz2⟩ := info_parts info_uses
  have hmk : ∀ W : World, (Instr.makeSlice 159 (.int .i64 (R : Int)) (.int .i64 (R : Int))).run Try.prog W = .ok (.slice (some ⟨W.heap.size, 0, none⟩) R R) (W.alloc (.cells (madeCells #[.slice none 0 0, .slice none 0 0] (R * 2)) 162)) := fun W => by
    have hr := run_make (P := Try.prog) W 159 162 i0 _ Try.underlying159 hi hz0 .i64 .i64 R R (by omega) (Int.le_refl _) (by rw [hz2]; omega) (by omega)
    simp only [Int.toNat_natCast] at hr
    rw [hz1] at hr
    exact hr
  go_enter Try.func146, Try.ntmps146
  go_wp2
  clear hmk hi hz0 hz1 hz2
  generalize hw1 : World.alloc w _ = w1
  obtain ⟨x0, x1, x2, x3, xs, xb⟩ := box4 hw1
  clear hw1
  rw [← xs]
  generalize hw2 : World.alloc w1 _ = w2
  have hmade : w2.ownsRow (w.heap.size + 1) 162 2 (.slice (some ⟨w1.heap.size, 0, none⟩) R R) R (UU (fun _ => (none, 0)) (fun _ => (none, 0)) p.s p.o 0 ++ List.replicate ((R - 0) * 2) (.slice none 0 0)) := by
    have h := World.ownsRow_lit (base := w.heap.size + 1) (e := 162) (size := 2) w1 (madeCells #[Value.slice none 0 0, Value.slice none 0 0] (R * 2)) R (by omega) (by unfold maxLen; omega) (by simp [size_madeCells])
    rw [made2, hw2] at h
    simpa [UU] using h
  have hb2 : Below (w.heap.size + 1) w1 w2 := by rw [← hw2]; exact (Below.refl _ _).alloc (by omega) _
  clear hw2
  have y0 := (hb2.cell (p := ⟨w.heap.size, 0, none⟩) (by simp)).trans x0
  have y1 := (hb2.cell (p := ⟨w.heap.size, 1, none⟩) (by simp)).trans x1
  have y2 := (hb2.cell (p := ⟨w.heap.size, 2, none⟩) (by simp)).trans x2
  have y3 := (hb2.cell (p := ⟨w.heap.size, 3, none⟩) (by simp)).trans x3
  have HB2 := Lib.hid (xb.trans (hb2.mono (show w.heap.size ≤ w.heap.size + 1 by omega)))
  have HM := Lib.hid hmade
  have hg : w.heap.size + 1 ≤ w1.heap.size := by omega
  have hw12 : w.heap.size + 1 < w2.heap.size := by have := ((own_block hmade) _ rfl).2; have e : w1.heap.size < w2.heap.size := this; omega
  clear x0 x1 x2 x3 xs xb hb2 hmade
  go_loopw [12] (fun iv wr => ∃ (k : Nat) (fo fs : Nat → Option Addr × Nat), k ≤ R ∧ iv = .int .i64 k ∧ wr.ownsRow (w.heap.size + 1) 162 2 (.slice (some ⟨w1.heap.size, 0, none⟩) R R) R (UU fo fs p.s p.o k ++ List.replicate ((R - k) * 2) (.slice none 0 0)) ∧
    OwX wr (w.heap.size + 1) fo fs p.s p.o k ∧ Below (w.heap.size + 1) w2 wr) (fun i _ => R - (intOf i).toNat)
  case atStart => exact ⟨0, _, _, by omega, rfl, HM.out, fun i hi => absurd hi (by omega), Below.refl _ _⟩
  case round =>
    obtain ⟨k, fo, fs, hk, rfl, hown, hX, hbel⟩ := hrel
    have hsz : w.heap.size + 1 < wr.heap.size := by have := hbel.size; omega
    have OWN := Lib.hid hown
    have OWX := Lib.hid hX
    by_cases hlt : k < R
    · have iqk : (k : Int) < (R : Int) := by omega
      have hbw := HB2.out.trans (hbel.mono (show w.heap.size ≤ w.heap.size + 1 by omega))
      have FS := Lib.hid (show ∀ x, Below wr.heap.size wr x → x.cell? ⟨w.heap.size, 0, none⟩ = some (.int .i64 N) ∧ x.cell? ⟨w.heap.size, 1, none⟩ = some (.slice A1 p.s.length c1) ∧ x.cell? ⟨w.heap.size, 2, none⟩ = some (.slice A2 p.o.length c2) ∧ x.cell? ⟨w.heap.size, 3, none⟩ = some (.slice A R c) from fun x hx =>
        ⟨((hx.cell (p := ⟨w.heap.size, 0, none⟩) (by simp only []; omega)).trans (hbel.cell (p := ⟨w.heap.size, 0, none⟩) (by simp))).trans y0, ((hx.cell (p := ⟨w.heap.size, 1, none⟩) (by simp only []; omega)).trans (hbel.cell (p := ⟨w.heap.size, 1, none⟩) (by simp))).trans y1,
        ((hx.cell (p := ⟨w.heap.size, 2, none⟩) (by simp only []; omega)).trans (hbel.cell (p := ⟨w.heap.size, 2, none⟩) (by simp))).trans y2, ((hx.cell (p := ⟨w.heap.size, 3, none⟩) (by simp only []; omega)).trans (hbel.cell (p := ⟨w.heap.size, 3, none⟩) (by simp))).trans y3⟩)
      have US := Lib.hid (show ∀ W, Below wr.heap.size wr W → _ from fun W hW => usesOf_any B N R A1 A2 A c1 c2 c p (k : Int) W hs40 ho6 (by have := hW.size; omega) ((H.out.below' hbw hB).below' hW (by omega)))
      have BEL := Lib.hid hbel
      clear hown hX hbel hbw
      obtain ⟨v0, v1, v2, v3⟩ := FS.out wr (Below.refl _ _)
      go_wp2_with fail
      go_at_call 151
      refine (US.out wr (Below.refl _ _)).mono ?_
      rintro e w5 ⟨O, co, S, cs, rfl, hO5, hS5, hb5⟩
      have hown5 := own_below OWN.out hb5
      have hX5 := OWX.out.below hb5
      have hl := UU_len fo fs p.s p.o k
      have d0 : w5.cell? ⟨w1.heap.size, k * 2, none⟩ = some (.slice none 0 0) := by
        rw [hown5.cellAt _ (by omega), List.getElem?_append_right (by omega), List.getElem?_replicate, if_pos (by omega)]
      have d1 : w5.cell? ⟨w1.heap.size, k * 2 + 1, none⟩ = some (.slice none 0 0) := by
        rw [hown5.cellAt _ (by omega), List.getElem?_append_right (by omega), List.getElem?_replicate, if_pos (by omega)]
      have f0 : w5.frozen? ⟨w1.heap.size, k * 2, none⟩ = false := hown5.frozenAt _
      have f1 : w5.frozen? ⟨w1.heap.size, k * 2 + 1, none⟩ = false := hown5.frozenAt _
      have OWN5 := Lib.hid hown5
      have OWX5 := Lib.hid hX5
      have HO5 := Lib.hid hO5
      have HS5 := Lib.hid hS5
      have BEL5 := Lib.hid (BEL.out.trans (hb5.mono (show w.heap.size + 1 ≤ wr.heap.size by omega)))
      clear hown5 hX5 hO5 hS5 hb5 hl v0 v1 v2 v3
      go_wp2
      go_roundw
      case rel =>
        refine ⟨k + 1, updU fo k (O, co), updU fs k (S, cs), by omega, by go_num, ?_, ?_, (BEL5.out.setCell hg _).setCell hg _⟩
        · have h := ((OWN5.out.stored (k * 2) (.slice O (usO p.o (k : Int) p.o.length).length co)).1.stored (k * 2 + 1) (.slice S (usS p.s (k : Int) p.s.length).length cs)).1
          rw [fill2 _ _ _ _ (UU_len fo fs p.s p.o k) hlt] at h
          rw [UU_upd]
          exact h
        · obtain ⟨ws, hws⟩ := own_heap OWN5.out
          have h2 := (OWN5.out.stored (k * 2) (.slice O (usO p.o (k : Int) p.o.length).length co)).1
          obtain ⟨ws2, hws2⟩ := own_heap h2
          refine OwX.upd ((OWX5.out.set hws (by decide) _).set hws2 (by decide) _) ?_ ?_
          · exact own_base (own_set (own_set (h := HO5.out) hws (by decide) _) hws2 (by decide) _) (by omega)
          · exact own_base (own_set (own_set (h := HS5.out) hws (by decide) _) hws2 (by decide) _) (by omega)
      case measure => simp [intOf]; omega
    · have hk' : k = R := by omega
      subst hk'
      have HB3 := Lib.hid (HB2.out.trans (hbel.mono (show w.heap.size ≤ w.heap.size + 1 by omega)))
      clear hown hX hbel
      go_wp2
      go_ret
      refine ⟨_, _, rfl, ⟨fo, fs, ?_, OWX.out.base (by omega)⟩, HB3.out⟩
      have h := own_base OWN.out (show w.heap.size ≤ w.heap.size + 1 by omega)
      simpa using h
end Go.Proofs.Ytbbjgcagkmlngaa
/- How often values are used, by the model. -/
namespace Go.Proofs.Ytbbjgcagkmlngaa
open Go.RowKit

end Go.Proofs.Ytbbjgcagkmlngaa
/- UsesOf, of the model and of the program. -/
namespace Go.Proofs.Ytbbjgcagkmlngaa
open Go.RowKit

def usR (p : Pl) : List Int := if good p then usL p else []
theorem usR_good {p : Pl} {N : Nat} (h : good p = true) (hN : p.n = N) : usR p = cL p.s p.o (N + p.s.length) p.s.length p.o.length := by
  have : p.n.toNat = N := by omega
  unfold usR usL
  rw [if_pos h, this]
theorem usR_bad {p : Pl} (h : good p = false) : usR p = [] := by unfold usR; rw [if_neg (by rw [h]; decide)]
theorem usR_le (p : Pl) : (usR p).length ≤ 1000 := by
  cases h : good p with
  | false => rw [usR_bad h]; simp
  | true =>
    obtain ⟨N, hN, _, n6, h40, _⟩ := good_facts h
    rw [usR_good h hN, cL_length]
    omega
/-- Behind withValues: the box of what it answers. -/
theorem box4v {w w1 : World} {a b c d : Value} {t : TypeId} (h : w.alloc (.cells #[a, b, c, d] t) = w1) :
    (w1.cell? ⟨w.heap.size, 0, none⟩ = some a ∧ w1.cell? ⟨w.heap.size, 1, none⟩ = some b ∧ w1.cell? ⟨w.heap.size, 2, none⟩ = some c ∧ w1.cell? ⟨w.heap.size, 3, none⟩ = some d) ∧ w1.heap.size = w.heap.size + 1 ∧ Below w.heap.size w w1 :=
  let ⟨h0, h1, h2, h3, hs, hb⟩ := box4 h
  ⟨⟨h0, h1, h2, h3⟩, hs, hb⟩


/-- The first k counts. -/
def cK (s : List (Int × Int)) (o : List Int) (k : Nat) : List Int := cL s o k s.length o.length
theorem cK_succ (s : List (Int × Int)) (o : List Int) (k : Nat) : cK s o (k + 1) = cK s o k ++ [((usC s o s.length o.length (k : Int) : Nat) : Int)] := by
  unfold cK cL
  rw [List.range_succ, List.map_append]
  rfl
theorem cK_len (s : List (Int × Int)) (o : List Int) (k : Nat) : (cK s o k).length = k := cL_length _ _ _ _ _

end Go.Proofs.Ytbbjgcagkmlngaa
