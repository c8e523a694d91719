/- The text of a plan, by the program. -/
import Derived.Test.YtodjnafalbbmjabDoorUb
import Derived.Test.YtodjnafalbbmjabDoorZe
import Derived.Test.YtodjnafalbbmjabDoorEa
namespace Go.Proofs.YtodjnafalbbmjabDoor
open Go.RowKit

/-- A row of texts behind k rounds. -/
def tyr (ts : List (List UInt8)) (k : Nat) : List Value := (ts.take k).map sv ++ List.replicate (ts.length - k) (.string ⟨#[]⟩)
theorem tyr_len (ts : List (List UInt8)) {k : Nat} (hk : k ≤ ts.length) : (tyr ts k).length = ts.length := by simp [tyr]; omega
theorem tyr_set {ts : List (List UInt8)} {k : Nat} (hk : k < ts.length) : (tyr ts k).set k (sv ts[k]) = tyr ts (k + 1) := by
  unfold tyr
  rw [List.set_append_right _ _ (by rw [List.length_map, List.length_take]; omega)]
  have e : ts.length - k = (ts.length - (k + 1)) + 1 := by omega
  rw [show k - ((ts.take k).map sv).length = 0 by simp; omega, e, List.replicate_succ, List.set_cons_zero, List.take_succ_eq_append_getElem hk, List.map_append, List.append_assoc]
  rfl
theorem tyr_zero (ts : List (List UInt8)) : tyr ts 0 = List.replicate ts.length (.string ⟨#[]⟩) := by simp [tyr]
theorem tyr_end (ts : List (List UInt8)) : tyr ts ts.length = ts.map sv := by simp [tyr]

/-- A list of texts, a minus sign for none. -/
def jnT (ts : List (List UInt8)) : List UInt8 := if ts = [] then [45] else Lib.join ts [44]
theorem jn_ls (l : List Int) : jnT (l.map ddI) = lsT l := by
  unfold jnT lsT
  by_cases h : l = []
  · subst h; rfl
  · rw [if_neg (by simpa using h), if_neg h]; rfl
theorem jn_st (s : List (Int × Int)) : jnT (s.map stT) = sLT s := by
  unfold jnT sLT
  by_cases h : s = []
  · subst h; rfl
  · rw [if_neg (by simpa using h), if_neg h]; rfl

set_option maxRecDepth 100000 in
set_option maxHeartbeats 1000000 in
theorem listText_any (B : Nat) (A : Option Addr) (c n : Nat) (ts : List (List UInt8)) (w : World) (hn : ts.length = n) (h : OwT w B (.slice A n c) ts) (hlen : (Lib.join ts [44]).length ≤ 140737488355328) (hts : n ≤ 1000000) :
    Calls Tryd.prog 41 #[.slice A n c] w fun e w' => e = .returned (.string ⟨(jnT ts).toArray⟩) ∧ Below w.heap.size w w' := by
  by_cases h0 : ts = []
  · subst h0
    have hn0 : n = 0 := hn.symm
    subst hn0
    go_enter Tryd.func41, Tryd.ntmps41
    go_wp2
    go_ret
    exact ⟨rfl, Below.refl _ _⟩
  · have E := Lib.hid (show jnT ts = Lib.join ts [44] from by unfold jnT; rw [if_neg h0])
    have hne : ((n : Int) == 0) = false := by
      have : 0 < ts.length := List.length_pos_iff.2 h0
      simp
      omega
    subst hn
    have HJ := Lib.hid (join_any B A c ts [44] w h hlen hts)
    clear h0 h hlen
    go_enter Tryd.func41, Tryd.ntmps41
    go_wp2_with (go_at_call 27; refine HJ.out.mono ?_; rintro e w2 ⟨rfl, hb2⟩)
    go_ret
    exact ⟨by rw [E.out]; rfl, hb2⟩

theorem sml_of_good {p : Pl} (h : good p = true) : Sml p := by
  obtain ⟨N, hn, h1, h6, hs, ho, hok, hout, _⟩ := good_facts h
  refine ⟨by omega, fun st hst => ?_, fun x hx => ?_, by omega, by omega⟩
  · obtain ⟨i, hi, rfl⟩ := List.mem_iff_getElem.1 hst
    obtain ⟨a, b, c⟩ := hok i hi
    refine ⟨⟨by omega, by omega⟩, by omega, by omega⟩
  · have := hout x hx
    omega
/-- What both sides answer to PlanText. -/
def plX (p : Pl) : List UInt8 := if good p then plT p else []
theorem plX_true {p : Pl} (h : good p = true) : plX p = plT p := by unfold plX; rw [if_pos h]
theorem plX_false {p : Pl} (h : good p = false) : plX p = [] := by unfold plX; rw [h]; rfl

set_option maxRecDepth 100000 in
set_option maxHeartbeats 1000000 in
theorem specPlanText_any (B : Nat) (A1 A2 : Option Addr) (c1 c2 : Nat) (p : Pl) (w : World) (hB : B ≤ w.heap.size) (hls : p.s.length ≤ 2000000) (hlo : p.o.length ≤ 2000000) (hr : RdP w B A1 A2 p) :
    Calls Tryd.prog 16 #[.agg #[.int .i64 p.n, .slice A1 p.s.length c1, .slice A2 p.o.length c2]] w fun e w' => e = .returned (.tuple #[.string ⟨(plX p).toArray⟩, .bool (good p)]) ∧ Below w.heap.size w w' := by
  have H := Lib.hid hr
  have hG := fun W (hb : Below w.heap.size w W) => plGood_any B A1 A2 c1 c2 p W (by have := hb.size; omega) hls hlo (H.out.below' hb hB)
  clear hr
  cases hg : good p with
  | false =>
    have E := Lib.hid (plX_false hg)
    rw [hg] at hG
    have HG := Lib.hid hG
    clear hG hg
    go_enter Tryd.func16, Tryd.ntmps16
    go_wp2_with fail
    go_at_call 36
    refine (HG.out _ ((Below.refl _ _).alloc (Nat.le_refl _) _)).mono ?_
    rintro e w2 ⟨rfl, hb2⟩
    have HB := Lib.hid (((Below.refl w.heap.size w).alloc (Nat.le_refl _) _).trans (hb2.mono (by simp)))
    clear hb2
    go_wp2
    go_ret2
    exact ⟨by rw [E.out]; rfl, HB.out⟩
  | true =>
    have E := Lib.hid (plX_true hg)
    have HT := Lib.hid (fun W (hb : Below w.heap.size w W) => plText_any B A1 A2 c1 c2 p W (by have := hb.size; omega) (sml_of_good hg) (H.out.below' hb hB))
    rw [hg] at hG
    have HG := Lib.hid hG
    clear hG hg
    go_enter Tryd.func16, Tryd.ntmps16
    go_wp2_with fail
    go_at_call 36
    generalize hw1 : World.alloc w _ = w1
    obtain ⟨y0, y1, y2, ys, yb⟩ := box3 hw1
    clear hw1
    refine (HG.out _ yb).mono ?_
    rintro e w2 ⟨rfl, hb2⟩
    have z0 := (hb2.cell (p := ⟨w.heap.size, 0, none⟩) (by simp only []; omega)).trans y0
    have z1 := (hb2.cell (p := ⟨w.heap.size, 1, none⟩) (by simp only []; omega)).trans y1
    have z2 := (hb2.cell (p := ⟨w.heap.size, 2, none⟩) (by simp only []; omega)).trans y2
    have HB := Lib.hid (yb.trans (hb2.mono yb.size))
    clear y0 y1 y2 ys yb hb2
    go_wp2_with (go_at_call 37; refine (HT.out _ HB.out).mono ?_; rintro e w3 ⟨rfl, hb3⟩)
    go_ret2
    exact ⟨by rw [E.out]; rfl, HB.out.trans (hb3.mono HB.out.size)⟩
end Go.Proofs.YtodjnafalbbmjabDoor
