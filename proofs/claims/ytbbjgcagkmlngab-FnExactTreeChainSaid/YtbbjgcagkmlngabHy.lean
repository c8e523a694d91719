/- All ways of the tree, by the program. -/
import Derived.Test.YtbbjgcagkmlngabHx
import Derived.Test.YtbbjgcagkmlngabCs
import Derived.Test.YtbbjgcagkmlngabQg
import Derived.Test.YtbbjgcagkmlngabQl
import Derived.Test.YtbbjgcagkmlngabQn
import Derived.Deep.LoopGhost
namespace Go.Proofs.Ytbbjgcagkmlngab
open Go.RowKit

def TV (f : Nat → Option Addr × Nat) (T : List (List Nat)) : List Value := (List.range T.length).map fun i => Value.slice (f i).1 (T.getD i []).length (f i).2
def OwN (w : World) (B : Nat) (A : Option Addr) (c : Nat) (f : Nat → Option Addr × Nat) (T : List (List Nat)) : Prop :=
  w.ownsRow B 22 1 (.slice A T.length c) T.length (TV f T) ∧ ∀ i, i < T.length → OwI w B (.slice (f i).1 (T.getD i []).length (f i).2) (cs (T.getD i []))

theorem own_nblk {w : World} {B e sz n b : Nat} {t : TypeId} {v : Value} {xs : List Value} {arr : Array Value} (h : w.ownsRow B e sz v n xs) (hb : w.heap[b]? = some (.cells arr t (0, 0))) (hne : e ≠ t) : v.ownBlock ≠ some b := by
  intro hg
  rcases h.2 with ⟨rfl, _⟩ | ⟨g', cap, cur, hv, _, hh, _⟩
  · cases hg
  · rw [hv] at hg
    have e1 : g' = b := by simpa [Value.ownBlock] using hg
    subst e1
    rw [hb] at hh
    injection hh with hh
    injection hh with _ h2
    exact hne h2.symm
/-- Which numbers are there. -/
def AD (w : World) (b : Nat) (T : List (List Nat)) : Prop := ∃ arr : Array Value, w.heap[b]? = some (.cells arr 178 (0, 0)) ∧ arr.size = 401 ∧ ∀ n, n ≤ 400 → arr[n]? = some (.bool (T.any fun q => lastN q == n))
theorem AD.keep {w w' : World} {b : Nat} {T : List (List Nat)} (h : AD w b T) (hk : w'.heap[b]? = w.heap[b]?) : AD w' b T := by
  obtain ⟨arr, h1, h2⟩ := h
  exact ⟨arr, hk.trans h1, h2⟩
theorem AD.lt {w : World} {b : Nat} {T : List (List Nat)} (h : AD w b T) : b < w.heap.size := by
  obtain ⟨arr, h1, _⟩ := h
  exact (Array.getElem?_eq_some_iff.1 h1).1
theorem AD.at_ {w : World} {b : Nat} {T : List (List Nat)} (h : AD w b T) {n : Nat} (hn : n ≤ 400) : w.cell? ⟨b, n, none⟩ = some (.bool (T.any fun q => lastN q == n)) ∧ w.frozen? ⟨b, n, none⟩ = false := by
  obtain ⟨arr, h1, _, h3⟩ := h
  exact ⟨by rw [cell_of_row w b n arr _ _ h1]; exact h3 n hn, frozen_of_row w b n arr _ h1⟩
theorem AD.add {w : World} {b : Nat} {T : List (List Nat)} (h : AD w b T) {n : Nat} (hn : n ≤ 400) (p : List Nat) : AD (w.setCell ⟨b, n, none⟩ (.bool true)) b (T ++ [p ++ [n]]) := by
  obtain ⟨arr, h1, h2, h3⟩ := h
  refine ⟨_, heap_setCell_same w b n arr _ _ h1, by rw [Array.size_setIfInBounds]; exact h2, fun k hk => ?_⟩
  rw [Array.getElem?_setIfInBounds, List.any_append, List.any_cons, List.any_nil, Bool.or_false, lastN_snoc]
  by_cases e : n = k
  · subst e
    rw [if_pos rfl, if_pos (by omega)]
    simp
  · rw [if_neg e, h3 k hk]
    simp [e]
theorem AD.type {w : World} {b : Nat} {T : List (List Nat)} (h : AD w b T) : ∃ arr, w.heap[b]? = some (.cells arr 178 (0, 0)) := by
  obtain ⟨arr, h1, _⟩ := h
  exact ⟨arr, h1⟩
theorem addW_add {p : List Nat} {T : List (List Nat)} {a x : Nat} (hx : lastN p + a = x) (h : x ≤ 400) (h2 : (T.any fun q => lastN q == x) = false) : addW p T a = T ++ [p ++ [x]] := by
  unfold addW
  rw [hx, ← List.not_any_eq_all_not, h2, if_pos ⟨h, rfl⟩]
theorem addW_big {p : List Nat} {T : List (List Nat)} {a x : Nat} (hx : lastN p + a = x) (h : ¬ x ≤ 400) : addW p T a = T := by
  unfold addW
  rw [hx, if_neg (fun h' => h h'.1)]
theorem addW_has {p : List Nat} {T : List (List Nat)} {a x : Nat} (hx : lastN p + a = x) (h2 : (T.any fun q => lastN q == x) = true) : addW p T a = T := by
  unfold addW
  rw [hx, ← List.not_any_eq_all_not, h2, if_neg (fun h' => absurd h'.2 (by simp))]
theorem zero_arr : Try.zeroCells178.toList = List.replicate 401 (.bool false) := by kernel_rfl
theorem TV_len (f : Nat → Option Addr × Nat) (T : List (List Nat)) : (TV f T).length = T.length := by simp [TV]
theorem TV_at (f : Nat → Option Addr × Nat) {T : List (List Nat)} {i : Nat} (hi : i < T.length) : (TV f T)[i]? = some (.slice (f i).1 (T.getD i []).length (f i).2) := by simp [TV, hi]
theorem getD_appN {T : List (List Nat)} (p : List Nat) {i : Nat} (hi : i < T.length) : (T ++ [p]).getD i [] = T.getD i [] := by
  rw [List.getD_eq_getElem?_getD, List.getElem?_append_left hi, ← List.getD_eq_getElem?_getD]
theorem getD_lastN (T : List (List Nat)) (p : List Nat) : (T ++ [p]).getD T.length [] = p := by
  rw [List.getD_eq_getElem?_getD, List.getElem?_concat_length]
  rfl
def updN (f : Nat → Option Addr × Nat) (k : Nat) (a : Option Addr × Nat) : Nat → Option Addr × Nat := fun i => if i = k then a else f i
theorem TV_upd (f : Nat → Option Addr × Nat) (T : List (List Nat)) (p : List Nat) (A : Option Addr) (c : Nat) : TV (updN f T.length (A, c)) (T ++ [p]) = TV f T ++ [.slice A p.length c] := by
  unfold TV
  rw [List.length_append, List.length_singleton, List.range_succ, List.map_append]
  congr 1
  · apply List.map_congr_left
    intro i hi
    have hi' := List.mem_range.1 hi
    rw [getD_appN p hi']
    simp [updN, show i ≠ T.length by omega]
  · simp only [List.map_cons, List.map_nil]
    rw [getD_lastN]
    simp [updN]
theorem OwN.below {w w' : World} {B : Nat} {A : Option Addr} {c : Nat} {f : Nat → Option Addr × Nat} {T : List (List Nat)} (h : OwN w B A c f T) (hb : Below w.heap.size w w') : OwN w' B A c f T := ⟨own_below h.1 hb, fun i hi => (h.2 i hi).below hb⟩
theorem OwN.store {w : World} {B : Nat} {A : Option Addr} {c : Nat} {f : Nat → Option Addr × Nat} {T : List (List Nat)} (h : OwN w B A c f T) {b n : Nat} {arr : Array Value} (hb : w.heap[b]? = some (.cells arr 178 (0, 0))) (v : Value) : OwN (w.setCell ⟨b, n, none⟩ v) B A c f T :=
  ⟨ownsRow_setCell_other h.1 (own_nblk h.1 hb (by decide)) v, fun i hi => ownsRow_setCell_other (h.2 i hi) (own_nblk (h.2 i hi) hb (by decide)) v⟩
theorem OwN.at_ {w : World} {B : Nat} {A : Option Addr} {c : Nat} {f : Nat → Option Addr × Nat} {T : List (List Nat)} (h : OwN w B A c f T) {i : Nat} (hi : i < T.length) :
    ∃ g, A = some ⟨g, 0, none⟩ ∧ B ≤ g ∧ w.cell? ⟨g, i, none⟩ = some (.slice (f i).1 (T.getD i []).length (f i).2) := by
  obtain ⟨g, rfl, hB, _, hc, _⟩ := own_at h.1 (by omega)
  exact ⟨g, rfl, hB, by rw [hc i (by omega), TV_at f hi]⟩

theorem World.heap_size_setCell' (w : World) (p : Addr) (v : Value) : (w.setCell p v).heap.size = w.heap.size := by simp
theorem OwN.add {w1 w6 w7 : World} {B c bA x m c6 c7 : Nat} {A A6 A7 : Option Addr} {f : Nat → Option Addr × Nat} {T : List (List Nat)} {p : List Nat} {o : Obj} (h : OwN w1 B A c f T) (had : AD w1 bA (T ++ [p ++ [x]])) (hB : B ≤ w1.heap.size) (hb : Below w1.heap.size w1 w6)
    (h6 : OwI w6 w1.heap.size (.slice A6 (m + 1) c6) (cs p ++ [(x : Int)])) (hm : p.length = m)
    (hown : w7.ownsRow B 22 1 (.slice A7 (T.length + 1) c7) (T.length + 1) (TV f T ++ [.slice A6 (m + 1) c6])) (hg : (w6.alloc o).grownBy w7 (Value.slice A T.length c).ownBlock) :
    OwN w7 B A7 c7 (updN f T.length (A6, c6)) (T ++ [p ++ [x]]) ∧ AD w7 bA (T ++ [p ++ [x]]) := by
  have hb2 : Below w1.heap.size w1 (w6.alloc o) := hb.alloc hb.size _
  have hlen : (p ++ [x]).length = m + 1 := by rw [List.length_append, hm]; rfl
  refine ⟨⟨?_, fun i hi => ?_⟩, ?_⟩
  · rw [List.length_append, List.length_singleton, TV_upd, hlen]
    exact hown
  · rw [List.length_append, List.length_singleton] at hi
    rcases Nat.lt_or_ge i T.length with hlt | hge
    · rw [getD_appN _ hlt, show updN f T.length (A6, c6) i = f i by simp [updN, show i ≠ T.length by omega]]
      have hrow := own_below (show World.ownsRow _ _ _ _ _ _ _ from h.2 i hlt) hb2
      exact World.ownsRow.kept hrow hg (own_ne hrow (own_below h.1 hb2) (by decide))
    · have e : i = T.length := by omega
      subst e
      rw [getD_lastN, show updN f T.length (A6, c6) T.length = (A6, c6) by simp [updN], hlen, cs_snoc]
      have h6' : (w6.alloc o).ownsRow w1.heap.size 3 1 (.slice A6 (m + 1) c6) (cs p ++ [(x : Int)]).length ((cs p ++ [(x : Int)]).map I) := OwI.alloc h6 _
      exact own_base (World.ownsRow.kept h6' hg (own_ne h6' (own_below h.1 hb2) (by decide))) hB
  · refine had.keep ?_
    have hlt := had.lt
    obtain ⟨arr, harr⟩ := had.type
    have hne := own_nblk h.1 harr (by decide)
    exact (hg.block bA (by have := hb2.size; omega) (fun e => hne e.symm)).trans (hb2.block bA hlt)

/-- What is known of each way. -/
theorem tree_facts {T : List (List Nat)} (h : T <+: treeT) : T.length ≤ 400 ∧ ∀ i, i < T.length → 1 ≤ (T.getD i []).length ∧ (T.getD i []).length ≤ 40 ∧ ∀ j, j < (T.getD i []).length → 1 ≤ (T.getD i []).getD j 0 ∧ (T.getD i []).getD j 0 ≤ 400 := by
  have ht := tree_ok
  rw [← treeT_eq] at ht
  unfold treeOk at ht
  obtain ⟨h1, h2⟩ := (Bool.and_eq_true _ _).mp ht
  have hl := h.length_le
  refine ⟨Nat.le_trans hl (of_decide_eq_true h1), fun i hi => ?_⟩
  have hm : T.getD i [] ∈ treeT := by
    refine h.subset ?_
    rw [List.getD_eq_getElem?_getD, List.getElem?_eq_getElem hi]
    exact List.getElem_mem hi
  have h3 := List.all_eq_true.1 h2 _ hm
  obtain ⟨h4, h5⟩ := (Bool.and_eq_true _ _).mp h3
  obtain ⟨h6, h7⟩ := (Bool.and_eq_true _ _).mp h4
  refine ⟨?_, of_decide_eq_true h7, fun j hj => ?_⟩
  · cases hq : T.getD i [] with
    | nil => rw [hq] at h6; exact absurd h6 (by simp)
    | cons _ _ => simp
  · have h8 := List.all_eq_true.1 h5 _ (List.getElem_mem hj)
    obtain ⟨h9, h10⟩ := (Bool.and_eq_true _ _).mp h8
    rw [List.getD_eq_getElem?_getD (l := T.getD i []), List.getElem?_eq_getElem hj]
    exact ⟨of_decide_eq_true h9, of_decide_eq_true h10⟩

set_option maxRecDepth 100000 in
set_option maxHeartbeats 4000000 in
theorem treeWays_any (w : World) : Calls Try.prog 116 #[] w fun e w' => ∃ A c f, e = .returned (.slice A treeT.length c) ∧ OwN w' w.heap.size A c f treeT ∧ Below w.heap.size w w' := by
  have hfin := tree_facts (List.prefix_refl treeT)
  obtain ⟨Z, hZ⟩ : ∃ Z, treeT = Z := ⟨_, rfl⟩
  have hrun : runW 400 0 [[1]] = Z := hZ
  have hTF := fun (T : List (List Nat)) (h : T <+: Z) => tree_facts (by rw [hZ]; exact h)
  rw [hZ] at hfin
  rw [hZ]
  have HRUN := Lib.hid hrun
  have HTF := Lib.hid hTF
  have HFIN := Lib.hid hfin.1
  clear hrun hTF hfin hZ
  go_enter Try.func116, Try.ntmps116
  go_wp2
  generalize hw3 : World.alloc (World.alloc (World.alloc w _) _) _ = w3
  obtain ⟨b, hb⟩ : ∃ b, w.heap.size = b := ⟨_, rfl⟩
  have q1 : w3.heap[b]? = some (.cells #[.int .i64 1] 3 (0, 0)) := by
    rw [← hw3, ← hb, Below.heap_alloc _ _ _ (by simp; omega), Below.heap_alloc _ _ _ (by simp), heap_alloc_new]
  have z1 : (w.alloc (.cells #[.int .i64 1] 3)).heap.size = b + 1 := by simp [hb]
  have q2 : w3.heap[b + 1]? = some (.cells #[.slice (some ⟨b, 0, none⟩) 1 1] 22 (0, 0)) := by
    rw [← hw3, Below.heap_alloc _ _ _ (by simp; omega), ← z1, heap_alloc_new, hb]
  have q3 : w3.heap[b + 2]? = some (.cells (Try.zeroCells178.setIfInBounds 1 (.bool true)) 178 (0, 0)) := by
    have := heap_alloc_new ((w.alloc (.cells #[.int .i64 1] 3)).alloc (.cells #[.slice (some ⟨w.heap.size, 0, none⟩) 1 1] 22)) (.cells (Try.zeroCells178.setIfInBounds 1 (.bool true)) 178)
    rw [hw3] at this
    rw [show ((w.alloc (.cells #[.int .i64 1] 3)).alloc (.cells #[.slice (some ⟨w.heap.size, 0, none⟩) 1 1] 22)).heap.size = b + 2 by simp [hb]] at this
    exact this
  have qb : Below w.heap.size w w3 := by rw [← hw3]; exact ((((Below.refl _ _).alloc (Nat.le_refl _) _).alloc (by simp) _).alloc (by simp; omega) _)
  have hAD : AD w3 (b + 2) [[1]] := by
    have hsz : Try.zeroCells178.size = 401 := by simp
    refine ⟨_, q3, by rw [Array.size_setIfInBounds]; exact hsz, fun n hn => ?_⟩
    rw [Array.getElem?_setIfInBounds]
    by_cases e : 1 = n
    · subst e
      rw [if_pos rfl, if_pos (by omega)]
      rfl
    · rw [if_neg e, ← Array.getElem?_toList, zero_arr, List.getElem?_replicate, if_pos (by omega)]
      have : ([[1]] : List (List Nat)).any (fun q => lastN q == n) = false := by
        show (lastN [1] == n || false) = false
        rw [Bool.or_false]
        show ((1 : Nat) == n) = false
        simpa using e
      rw [this]
  have hOW : OwN w3 w.heap.size (some ⟨b + 1, 0, none⟩) 1 (fun _ => (some ⟨b, 0, none⟩, 1)) [[1]] := by
    rw [hb]
    refine ⟨⟨rfl, .inr ⟨b + 1, 1, _, rfl, by omega, q2, Nat.le_refl _, by unfold maxLen; omega, rfl, rfl⟩⟩, fun i hi => ?_⟩
    have e : i = 0 := by simpa using hi
    subst e
    exact ⟨rfl, .inr ⟨b, 1, _, rfl, Nat.le_refl _, q1, Nat.le_refl _, by unfold maxLen; omega, rfl, rfl⟩⟩
  have HAD := Lib.hid hAD
  have HOW := Lib.hid hOW
  have QB := Lib.hid qb
  have HB := Lib.hid hb
  rw [hb]
  obtain ⟨bA, hbA⟩ : ∃ bA, b + 1 + 1 = bA := ⟨_, rfl⟩
  rw [hbA]
  rw [show b + 2 = bA from hbA] at HAD
  have HBA := Lib.hid hbA
  clear q1 q2 q3 z1 qb hAD hOW hw3 hb hbA
  go_loopg [1, 3] 401 (fun gk v1 v3 wr => ∃ (i R : Nat) (T : List (List Nat)) (A : Option Addr) (c : Nat) (f : Nat → Option Addr × Nat), v3 = .int .i64 (i : Int) ∧ v1 = .slice A R c ∧ 401 ≤ gk + i ∧ i ≤ 400 ∧ Aside (R = T.length ∧ OwN wr w.heap.size A c f T ∧ AD wr bA T ∧ Below w.heap.size w wr ∧ runW (400 - i) i T = Z))
  case atStart => exact ⟨0, 1, [[1]], _, 1, _, rfl, rfl, by omega, by omega, rfl, HOW.out, HAD.out, QB.out, HRUN.out⟩
  case round =>
    obtain ⟨i, R, T, A, c, f, rfl, rfl, hgk, hi4, AS⟩ := hrel
    clear HOW HAD QB
    have HR := Lib.hid AS.out.1
    have OWN := Lib.hid AS.out.2.1
    have ADD := Lib.hid AS.out.2.2.1
    have BEL := Lib.hid AS.out.2.2.2.1
    have hs := AS.out.2.2.2.1.size
    have RUN := Lib.hid AS.out.2.2.2.2
    have hpre : T <+: Z := by rw [← AS.out.2.2.2.2]; exact runW_pre _ _ _
    have hR4 : R ≤ 400 := by rw [AS.out.1]; exact (HTF.out T hpre).1
    have hTf := (HTF.out T hpre).2
    clear AS
    by_cases hlt : i < R
    · have iiR : (i : Int) < (R : Int) := by omega
      have hiT : i < T.length := by rw [← HR.out]; exact hlt
      obtain ⟨p1, p2, p3⟩ := hTf i hiT
      obtain ⟨g, rfl, hgB, hcell⟩ := OWN.out.at_ hiT
      have hrow := OWN.out.2 i hiT
      have hpreJ : procW T i <+: Z := by
        have h := RUN.out
        rw [show 400 - i = (400 - (i + 1)) + 1 by omega, runW_step hiT] at h
        rw [← h]
        exact runW_pre _ _ _
      have hnext : runW (400 - (i + 1)) (i + 1) (procW T i) = Z := by
        have h := RUN.out
        rw [show 400 - i = (400 - (i + 1)) + 1 by omega, runW_step hiT] at h
        exact h
      have hJs := fun j => procJ_succ T i (j := j)
      have hJe := procJ_end T i
      have hJp := fun j => (procJ_pre T i j).trans hpreJ
      have hJT : ∀ j, T <+: procJ T i j := fun j => foldW_pre _ _ T
      have hgi : ∀ j, (procJ T i j).getD i [] = T.getD i [] := fun j => by
        obtain ⟨r, hr⟩ := hJT j
        rw [← hr, List.getD_eq_getElem?_getD, List.getElem?_append_left hiT, ← List.getD_eq_getElem?_getD]
      obtain ⟨p, hp⟩ : ∃ p, T.getD i [] = p := ⟨_, rfl⟩
      rw [hp] at p1 p2 p3 hcell hrow hJs hJe hgi
      obtain ⟨m, hm⟩ : ∃ m, p.length = m := ⟨_, rfl⟩
      rw [hm] at p1 p2 p3 hcell hrow hJs hJe
      obtain ⟨fa, hfa⟩ : ∃ fa, f i = fa := ⟨_, rfl⟩
      obtain ⟨a1, a2⟩ := fa
      rw [hfa] at hcell hrow
      have HNX := Lib.hid hnext
      have HJS := Lib.hid hJs
      have HJE := Lib.hid hJe
      have HJP := Lib.hid hJp
      have HGI := Lib.hid hgi
      have HJT := Lib.hid hJT
      have HP3 := Lib.hid p3
      have HM := Lib.hid hm
      have HFA := Lib.hid hfa
      have HIT := Lib.hid hiT
      clear hnext hJs hJe hJp hgi hJT p3 hp hm hfa hpreJ hpre hTf hrow RUN hiT
      go_wp2
      clear hcell
      obtain ⟨wo, rfl⟩ : ∃ wo, wo = wr := ⟨_, rfl⟩
      go_loopg [1, 21] (m + 1) (fun gj v1 v21 wq => ∃ (j R' : Nat) (A' : Option Addr) (c' : Nat) (f' : Nat → Option Addr × Nat), v21 = .int .i64 (j : Int) ∧ v1 = .slice A' R' c' ∧ m + 1 ≤ gj + j ∧ j ≤ m ∧ Aside (R' = (procJ T i j).length ∧ OwN wq w.heap.size A' c' f' (procJ T i j) ∧ AD wq bA (procJ T i j) ∧ Below w.heap.size w wq ∧ f' i = (a1, a2)))
      case atStart => exact ⟨0, R, _, c, f, rfl, rfl, by omega, by omega, HR.out, OWN.out, ADD.out, BEL.out, HFA.out⟩
      case round =>
        obtain ⟨j, R', A', c', f', rfl, rfl, hgj, hjm, AS⟩ := hrel
        clear OWN ADD BEL hs
        have HR' := Lib.hid AS.out.1
        have OW' := Lib.hid AS.out.2.1
        have AD' := Lib.hid AS.out.2.2.1
        have BE' := Lib.hid AS.out.2.2.2.1
        have hs' := AS.out.2.2.2.1.size
        have HF' := Lib.hid AS.out.2.2.2.2
        have hT4 := (HTF.out _ (HJP.out j)).1
        have hiT' : i < (procJ T i j).length := Nat.lt_of_lt_of_le HIT.out (HJT.out j).length_le
        obtain ⟨g', rfl, hgB', hcell⟩ := AS.out.2.1.at_ hiT'
        have hrow := AS.out.2.1.2 i hiT'
        rw [HGI.out j, AS.out.2.2.2.2, HM.out] at hcell hrow
        dsimp only at hcell hrow
        clear AS
        by_cases hj : j < m
        · have ijm : (j : Int) < (m : Int) := by omega
          have iiR' : (i : Int) < (R' : Int) := by rw [HR'.out]; omega
          have hR'4 : R' ≤ 400 := by rw [HR'.out]; exact hT4
          obtain ⟨gr, rfl, hgrB, _, hcr⟩ := own_cells hrow (by rw [cs_len]; exact HM.out) (by omega)
          have hca := hcr j hj
          rw [cs_getD] at hca
          have hab := HP3.out j hj
          have hxb : 1 ≤ lastN p ∧ lastN p ≤ 400 := by
            have := HP3.out (m - 1) (by omega)
            unfold lastN
            rw [HM.out]
            exact this
          have hcl : (cs p).length = m := by rw [cs_len]; exact HM.out
          have hrd : Rd wr wr.heap.size 1 (some ⟨gr, 0, none⟩) m ((cs p).map I) := by
            have h := hrow
            unfold OwI at h
            rw [hcl] at h
            exact Rd.of_own h
          have hE := endOf_any wr.heap.size (some ⟨gr, 0, none⟩) a2 (cs p) wr (by omega) (by omega) (by rw [hcl]; exact hrd)
          have hlv : (cs p).getD ((cs p).length - 1) 0 = (lastN p : Int) := by rw [cs_len, cs_getD]; rfl
          rw [hlv, cs_len, HM.out] at hE
          have hsucc := HJS.out j hj
          obtain ⟨a, ha⟩ : ∃ a, p.getD j 0 = a := ⟨_, rfl⟩
          rw [ha] at hca hab hsucc
          obtain ⟨x, hx⟩ : ∃ x, lastN p + a = x := ⟨_, rfl⟩
          obtain ⟨l, hl⟩ : ∃ l, lastN p = l := ⟨_, rfl⟩
          rw [hl] at hE hxb
          have HW1 := Lib.hid (show IntKind.i64.wrap ((l : Int) + (a : Int)) = (x : Int) by rw [IntWalk.i64_in _ (by omega)]; omega)
          have HEND := Lib.hid hE
          have HX := Lib.hid hx
          have HSU := Lib.hid hsucc
          have HROW := Lib.hid hrow
          have HRD := Lib.hid hrd
          clear hE hlv hcr ha hrow hrd hsucc hcl
          by_cases h400 : x ≤ 400
          case neg =>
            have ix : ¬ (x : Int) ≤ 400 := by omega
            have E := Lib.hid (show procJ T i (j + 1) = procJ T i j by rw [HSU.out]; exact addW_big HX.out h400)
            clear hx hl h400
            go_wp2_with fail
            go_at_call 117
            refine HEND.out.mono ?_
            rintro e w4 ⟨rfl, hw4⟩
            subst hw4
            clear HTF HNX HJS HJE HJP HGI HJT HP3 HM HFA HIT HRUN HX HSU
            have hw1 := HW1.out
            go_wp2
            clear hw1 ix
            go_roundg (gk - 1)
            case measure => omega
            case rel => exact ⟨j + 1, R', _, c', f', by go_num, rfl, by omega, by omega, by rw [E.out]; exact HR'.out, by rw [E.out]; exact OW'.out, by rw [E.out]; exact AD'.out, BE'.out, HF'.out⟩
          case pos =>
          have ix : (x : Int) ≤ 400 := by omega
          have ix1 : (x : Int) < 401 := by omega
          obtain ⟨hadc, hadf⟩ := AD'.out.at_ h400
          obtain ⟨v, hv⟩ : ∃ v, ((procJ T i j).any fun q => lastN q == x) = v := ⟨_, rfl⟩
          rw [hv] at hadc
          have HV := Lib.hid hv
          clear hv
          cases v with
          | true =>
            have E := Lib.hid (show procJ T i (j + 1) = procJ T i j by rw [HSU.out]; exact addW_has HX.out HV.out)
            clear hx hl
            go_wp2_with fail
            go_at_call 117
            refine HEND.out.mono ?_
            rintro e w4 ⟨rfl, hw4⟩
            subst hw4
            have hw1 := HW1.out
            go_wp2
            clear hw1
            go_roundg (gk - 1)
            case measure => omega
            case rel => exact ⟨j + 1, R', _, c', f', by go_num, rfl, by omega, by omega, by rw [E.out]; exact HR'.out, by rw [E.out]; exact OW'.out, by rw [E.out]; exact AD'.out, BE'.out, HF'.out⟩
          | false =>
            have E := Lib.hid (show procJ T i (j + 1) = procJ T i j ++ [p ++ [x]] by rw [HSU.out]; exact addW_add HX.out h400 HV.out)
            clear hx hl
            have hlen' := HR'.out
            have hne : ¬ bA = g' := by
              intro e
              obtain ⟨arr, harr⟩ := AD'.out.type
              exact own_nblk OW'.out.1 harr (by decide) (by simp [Value.ownBlock, e])
            have hner : ¬ bA = gr := by
              intro e
              obtain ⟨arr, harr⟩ := AD'.out.type
              exact own_nblk (show World.ownsRow _ _ _ _ _ _ _ from HROW.out) harr (by decide) (by simp [Value.ownBlock, e])
            have hOW1 : OwN (wr.setCell ⟨bA, x, none⟩ (.bool true)) w.heap.size (some ⟨g', 0, none⟩) c' f' (procJ T i j) := by
              obtain ⟨arr, harr⟩ := AD'.out.type
              exact OW'.out.store harr _
            have hAD1 : AD (wr.setCell ⟨bA, x, none⟩ (.bool true)) bA (procJ T i j ++ [p ++ [x]]) := AD'.out.add h400 p
            have hcell1 : (wr.setCell ⟨bA, x, none⟩ (.bool true)).cell? ⟨g', i, none⟩ = some (.slice (some ⟨gr, 0, none⟩) m a2) :=
              (cell_heap (p := ⟨g', i, none⟩) (Below.heap_setCell wr ⟨bA, x, none⟩ _ g' (fun e => hne e.symm))).trans hcell
            have hcl : (cs p).length = m := by rw [cs_len]; exact HM.out
            have hrd1 : Rd (wr.setCell ⟨bA, x, none⟩ (.bool true)) wr.heap.size 1 (some ⟨gr, 0, none⟩) m ((cs p).map I) := by
              have h := hOW1.2 i hiT'
              rw [HGI.out j, HF'.out, HM.out] at h
              unfold OwI at h
              rw [hcl] at h
              have h2 := Rd.of_own h
              have hz : (wr.setCell ⟨bA, x, none⟩ (.bool true)).heap.size = wr.heap.size := World.heap_size_setCell' _ _ _
              rw [hz] at h2
              exact h2
            have hCL := cloneI_any wr.heap.size (some ⟨gr, 0, none⟩) a2 (cs p) (wr.setCell ⟨bA, x, none⟩ (.bool true)) (by omega) (by omega) (by rw [World.heap_size_setCell']; exact Nat.le_refl _) (by rw [hcl]; exact hrd1)
            rw [hcl] at hCL
            have HCLN := Lib.hid hCL
            have HCLL := Lib.hid hcl
            have HOW1 := Lib.hid hOW1
            have HAD1 := Lib.hid hAD1
            have HB1 := Lib.hid (show Below w.heap.size w (wr.setCell ⟨bA, x, none⟩ (.bool true)) from BE'.out.setCell (show w.heap.size ≤ bA by have := HB.out; have := HBA.out; omega) _)
            have OWR := Lib.hid (show (wr.setCell ⟨bA, x, none⟩ (.bool true)).ownsRow w.heap.size 22 1 (.slice (some ⟨g', 0, none⟩) R' c') R' (TV f' (procJ T i j)) from by rw [hlen']; exact hOW1.1)
            have hm40 : m ≤ 40 := p2
            have HIT2 := Lib.hid hiT'
            clear hlen' hOW1 hAD1 hcl hrd1 hCL HTF HNX HJS HJE HJP HGI HJT HP3 HFA HIT HRUN HX HSU HROW HRD hiT' OW' AD' HV
            go_wp2_with fail
            go_at_call 117
            refine HEND.out.mono ?_
            rintro e w4 ⟨rfl, hw4⟩
            subst hw4
            have hw1 := HW1.out
            go_wp2_with fail
            clear hw1
            go_at_call 110
            refine HCLN.out.mono ?_
            rintro e w5 ⟨A5, c5, rfl, hown5, hb5⟩
            have O5 := Lib.hid hown5
            have B5 := Lib.hid hb5
            have hs5 := hb5.size
            clear hown5 hb5
            go_wp2_with (first
              | (at_builtin; refine list_step (fun K hK => ?_); refine step_app_int rfl (.tmp 47) (.tmp 49) rfl (w4.setCell ⟨bA, x, none⟩ (.bool true)).heap.size m _ (cs p) rfl (OwI.alloc O5.out _) HCLL.out w5.heap.size 1 (x : Int) rfl (by simp) (by omega) (by simp at hs5; simp; omega) ?_; intro A6 c6 w6 hown6 hg6 hbel6; have O6 := Lib.hid hown6; have B6 := Lib.hid ((B5.out.alloc hs5 _).trans hbel6); have hs6 := B6.out.size; clear hown6 hg6 hbel6; go_simp; refine hK _ _ ?_; clear hK K)
              | (at_builtin; refine list_step (fun K hK => ?_); refine step_app1 Try.underlying56 info_ints rfl (by omega) rfl (.tmp 42) (.tmp 51) rfl w.heap.size R' _ (TV f' (procJ T i j)) rfl (World.ownsRow.alloc (own_below OWR.out B6.out) _) w6.heap.size 1 (.slice A6 (m + 1) c6) rfl (by simp) rfl (by omega) (by have := HB1.out.size; simp at this; simp at hs6; simp; omega) ?_; intro A7 c7 w7 hown7 hg7 hbel7; go_simp; refine hK _ _ ?_; clear hK K))
            have hR := HR'.out
            have hadd := OwN.add HOW1.out HAD1.out (by have := HB1.out.size; exact this) B6.out (m := m) (o := .cells #[.slice A6 (m + 1) c6] 22) O6.out HM.out (by rw [← hR]; exact hown7) (by rw [← hR]; exact hg7)
            have hB7 : Below w.heap.size w w7 := (HB1.out.trans ((B6.out.mono HB1.out.size).trans ((Below.refl _ _).alloc (by have := HB1.out.size; have := B6.out.size; omega) _))).trans hbel7
            go_roundg (gk - 1)
            case measure => omega
            case rel => exact ⟨j + 1, R' + 1, A7, c7, updN f' (procJ T i j).length (A6, c6), by go_num, rfl, by omega, by omega, by rw [E.out, List.length_append, hR]; rfl, by rw [E.out]; exact hadd.1, by rw [E.out]; exact hadd.2, hB7, by rw [updN, if_neg (by have := HIT2.out; omega)]; exact HF'.out⟩
        · have e : j = m := by omega
          subst e
          have E := Lib.hid (HJE.out)
          have hz := HNX.out
          rw [← HJE.out] at hz
          have HZ2 := Lib.hid hz
          clear hcell hrow hz HTF HJS HJE HJP HGI HJT HP3 HFA HIT HRUN HNX
          go_wp2
          go_roundg (400 - i)
          case measure => omega
          case rel => exact ⟨i + 1, R', procJ T i j, _, c', f', by go_num, rfl, by omega, by omega, HR'.out, OW'.out, AD'.out, BE'.out, HZ2.out⟩
    · have hrun := RUN.out
      rw [runW_end (by rw [← HR.out]; exact hlt)] at hrun
      have HRN := Lib.hid hrun
      have iiR : ¬ (i : Int) < (R : Int) := by omega
      clear hrun hTf hpre RUN
      go_wp2
      go_ret
      have e := HRN.out
      subst e
      have e2 := HR.out
      subst e2
      exact ⟨A, c, rfl, ⟨f, OWN.out⟩, BEL.out⟩
end Go.Proofs.Ytbbjgcagkmlngab
