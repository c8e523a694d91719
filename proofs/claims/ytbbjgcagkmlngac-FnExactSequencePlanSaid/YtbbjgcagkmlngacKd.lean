/- A plan with only some steps, in an order: the program's. -/
import Derived.Test.YtbbjgcagkmlngacKb
import Derived.Test.YtbbjgcagkmlngacKc
namespace Go.Proofs.Ytbbjgcagkmlngac
open Go.RowKit

def nmOk (N : Nat) (t : List Int) (v : Int) : Bool := decide (v < N) || hasI t (v - N)
def nmI (N : Nat) (t : List Int) (v : Int) : Int := if v < N then v else if hasI t (v - N) then N + plc t (v - N) 0 else -1
def nmT (N m : Nat) (t : List Int) : List Int := (List.range (N + m)).map fun v : Nat => nmI N t (v : Int)
theorem nmT_length (N m : Nat) (t : List Int) : (nmT N m t).length = N + m := by simp [nmT]
theorem nmT_at (N m : Nat) (t : List Int) {v : Nat} (hv : v < N + m) : (nmT N m t)[v]'(by rw [nmT_length]; exact hv) = nmI N t (v : Int) := by simp [nmT]
theorem nm_bad {N : Nat} {t : List Int} {v : Int} (h : nmOk N t v = false) : nmI N t v = -1 := by
  unfold nmOk at h
  rw [Bool.or_eq_false_iff, decide_eq_false_iff_not] at h
  unfold nmI
  rw [if_neg h.1, if_neg (by rw [h.2]; decide)]
theorem nm_good {N : Nat} {l : List Int} {k : Nat} {v : Int} (h : nmOk N (l.take k) v = true) : nmI N (l.take k) v = numI N l v := by
  unfold nmOk at h
  unfold nmI numI
  by_cases hv : v < N
  · rw [if_pos hv, if_pos hv]
  · have h2 : hasI (l.take k) (v - N) = true := by
      rw [Bool.or_eq_true, decide_eq_true_eq] at h
      rcases h with h | h
      · exact absurd h hv
      · exact h
    rw [if_neg hv, if_neg hv, if_pos h2]
    have e := plc_app (l.take k) (l.drop k) (v - N) 0
    rw [List.take_append_drop, h2] at e
    rw [e]
    rfl
theorem nm_nonneg {N : Nat} {l : List Int} {v : Int} (h0 : 0 ≤ v) {k : Nat} (h : nmOk N (l.take k) v = true) : 0 ≤ numI N l v := by
  rw [← nm_good h]
  unfold nmOk at h
  unfold nmI
  by_cases hv : v < N
  · rw [if_pos hv]; exact h0
  · have h2 : hasI (l.take k) (v - N) = true := by
      rw [Bool.or_eq_true, decide_eq_true_eq] at h
      rcases h with h | h
      · exact absurd h hv
      · exact h
    rw [if_neg hv, if_pos h2]
    have := plc_nonneg h2 0
    omega
theorem nm_set {N m n k : Nat} {t : List Int} (ht : hasI t (n : Int) = false) (hk : t.length = k) : (nmT N m t).set (N + n) ((N : Int) + (k : Int)) = nmT N m (t ++ [(n : Int)]) := by
  apply List.ext_getElem?
  intro j
  by_cases hj : j < N + m
  · rw [show (nmT N m (t ++ [(n : Int)]))[j]? = some (nmI N (t ++ [(n : Int)]) (j : Int)) by simp [nmT, hj]]
    by_cases hjn : N + n = j
    · subst hjn
      rw [List.getElem?_set_self (by rw [nmT_length]; exact hj)]
      unfold nmI
      have e1 : ((N + n : Nat) : Int) - (N : Int) = (n : Int) := by omega
      have e2 : hasI (t ++ [(n : Int)]) (n : Int) = true := by simp [hasI]
      rw [if_neg (by omega), e1, if_pos e2, plc_app, ht]
      simp [plc, hk]
    · rw [List.getElem?_set_ne hjn, show (nmT N m t)[j]? = some (nmI N t (j : Int)) by simp [nmT, hj]]
      unfold nmI
      by_cases hjN : (j : Int) < (N : Int)
      · rw [if_pos hjN, if_pos hjN]
      · have e2 : hasI (t ++ [(n : Int)]) ((j : Int) - (N : Int)) = hasI t ((j : Int) - (N : Int)) := by
          unfold hasI
          rw [Bool.eq_iff_iff]
          simp
          omega
        rw [if_neg hjN, if_neg hjN, e2]
        by_cases hh : hasI t ((j : Int) - (N : Int)) = true
        · rw [if_pos hh, if_pos hh, plc_app, if_pos hh]
        · rw [if_neg hh, if_neg hh]
  · rw [List.getElem?_eq_none (by rw [List.length_set, nmT_length]; omega), List.getElem?_eq_none (by rw [nmT_length]; omega)]
theorem nm_start (N m : Nat) : ups N ++ List.replicate m (-1 : Int) = nmT N m [] := by
  apply List.ext_getElem?
  intro j
  by_cases hj : j < N + m
  · rw [show (nmT N m [])[j]? = some (nmI N [] (j : Int)) by simp [nmT, hj]]
    by_cases hjN : j < N
    · rw [List.getElem?_append_left (by rw [ups_length]; exact hjN)]
      have : (j : Int) < (N : Int) := by omega
      simp [ups, hjN, nmI, this]
    · rw [List.getElem?_append_right (by rw [ups_length]; omega), ups_length, List.getElem?_replicate, if_pos (by omega)]
      have : ¬ (j : Int) < (N : Int) := by omega
      simp [nmI, this, hasI]
  · rw [List.getElem?_eq_none (by simp [ups_length]; omega), List.getElem?_eq_none (by rw [nmT_length]; omega)]

def stepAt (p : Pl) (l : List Int) (i : Nat) : Int × Int := p.s.getD (l.getD i 0).toNat (0, 0)
def kOk (N : Nat) (p : Pl) (l : List Int) (k : Nat) : Bool := (List.range k).all fun i => nmOk N (l.take i) (stepAt p l i).1 && nmOk N (l.take i) (stepAt p l i).2
theorem stepAt_eq {p : Pl} {l : List Int} {k n : Nat} (hk : k < l.length) (hn : l[k] = (n : Int)) (hns : n < p.s.length) : stepAt p l k = p.s[n] := by
  unfold stepAt
  have : l.getD k 0 = (n : Int) := by simp [hk, hn]
  rw [this]
  simp [hns]
theorem kOk_succ (N : Nat) (p : Pl) (l : List Int) (k : Nat) : kOk N p l (k + 1) = (kOk N p l k && (nmOk N (l.take k) (stepAt p l k).1 && nmOk N (l.take k) (stepAt p l k).2)) := by
  unfold kOk
  rw [List.range_succ, List.all_append]
  simp
theorem kOk_false {N : Nat} {p : Pl} {l : List Int} {k : Nat} (hk : k < l.length) (h : (nmOk N (l.take k) (stepAt p l k).1 && nmOk N (l.take k) (stepAt p l k).2) = false) : kOk N p l l.length = false := by
  unfold kOk
  rw [List.all_eq_false]
  exact ⟨k, by simpa using hk, by rw [h]; decide⟩
def KeepPost (p : Pl) (N : Nat) (l : List Int) (w : World) (e : Ending) (w' : World) : Prop :=
  Below w.heap.size w w' ∧ (if kOk N p l l.length = true then ∃ B1 B2 d1 d2, e = .returned (.tuple #[.agg #[.int .i64 (N : Int), .slice B1 l.length d1, .slice B2 p.o.length d2], .bool true]) ∧ OwS w' w.heap.size (.slice B1 l.length d1) (keepS p N l l.length) ∧ OwI w' w.heap.size (.slice B2 p.o.length d2) (keepO p N l p.o.length)
    else e = .returned (.tuple #[.agg #[.int .i64 0, .slice none 0 0, .slice none 0 0], .bool false]))
theorem keepPost_none {p : Pl} {N : Nat} {l : List Int} {w w' : World} (h : kOk N p l l.length = false) (hb : Below w.heap.size w w') : KeepPost p N l w (.returned (.tuple #[.agg #[.int .i64 0, .slice none 0 0, .slice none 0 0], .bool false])) w' :=
  ⟨hb, by rw [if_neg (by rw [h]; decide)]⟩
theorem has_take_nodup {l : List Int} (hnd : l.Nodup) {k : Nat} (hk : k < l.length) : hasI (l.take k) l[k] = false := by
  unfold hasI
  simp only [List.contains_eq_mem, decide_eq_false_iff_not]
  intro hmem
  obtain ⟨i, hi, he⟩ := List.mem_iff_getElem.1 hmem
  rw [List.getElem_take] at he
  have hik : i < k := by simp at hi; omega
  have := (List.nodup_iff_pairwise_ne.1 hnd)
  rw [List.pairwise_iff_getElem] at this
  exact this i k (by omega) hk hik he

/-- A store into a row of another type. -/
theorem own_store_other {w : World} {B B' sz sz' n n' g o c' : Nat} {e e' : TypeId} {v : Value} {xs xs' : List Value} (h : w.ownsRow B e sz v n xs) (h' : w.ownsRow B' e' sz' (.slice (some ⟨g, 0, none⟩) n' c') n' xs') (hne : e' ≠ e) (u : Value) :
    (w.setCell ⟨g, o, none⟩ u).ownsRow B e sz v n xs := by
  rcases h'.2 with ⟨hv, _⟩ | ⟨g', cap, cur, hv, _, hg', _⟩
  · injection hv with hv _ _
    cases hv
  · injection hv with hv _ _
    injection hv with hv
    injection hv with hv _ _
    subst hv
    exact own_set h hg' hne u

set_option maxRecDepth 100000 in
set_option maxHeartbeats 4000000 in
theorem keep_any (B N R : Nat) (A1 A2 A3 A : Option Addr) (c1 c2 c3 c : Nat) (p : Pl) (l : List Int) (w : World) (hpn : p.n = N) (n1 : 1 ≤ N) (h6 : N ≤ 6) (hl : l.length ≤ 1000) (hs40 : p.s.length ≤ 1000) (ho6 : p.o.length ≤ 1000) (hB : B ≤ w.heap.size)
    (hlr : ∀ x ∈ l, 0 ≤ x ∧ x < p.s.length) (hnd : l.Nodup) (hok : OkS N p.s) (hout : ∀ x ∈ p.o, 0 ≤ x ∧ x < (N : Int) + p.s.length) (hcov : ∀ x ∈ p.o, nmOk N l x = true) (hr : RdP w B A1 A2 p) (hrl : Rd w B 1 A l.length (l.map I)) :
    Calls Try.prog 84 #[.agg #[.int .i64 p.n, .slice A1 p.s.length c1, .slice A2 p.o.length c2, .slice A3 R c3], .slice A l.length c] w (KeepPost p N l w) := by
  have H := Lib.hid hr
  have HL := Lib.hid hrl
  have HLR := Lib.hid hlr
  have HO := Lib.hid hok
  have HOUT := Lib.hid hout
  have HCOV := Lib.hid hcov
  have HND := Lib.hid hnd
  clear hr hrl hlr hok hout hcov hnd
  rw [hpn]
  clear hpn
  go_enter Try.func84, Try.ntmps84
  go_wp2_with fail
  go_at_call 94
  generalize hw2 : World.alloc (World.alloc w _) _ = w2
  have q0 : w2.heap[w.heap.size]? = some (.cells #[.int .i64 (N : Int), .slice A1 p.s.length c1, .slice A2 p.o.length c2, .slice A3 R c3] 80 (0, 0)) := by
    rw [← hw2, Below.heap_alloc _ _ _ (by simp)]; exact heap_alloc_new w _
  have q1 : w2.heap[w.heap.size + 1]? = some (.cells #[.int .i64 0, .slice none 0 0, .slice none 0 0] 39 (0, 0)) := by
    rw [← hw2]
    have := heap_alloc_new (w.alloc (.cells #[.int .i64 (N : Int), .slice A1 p.s.length c1, .slice A2 p.o.length c2, .slice A3 R c3] 80)) (.cells #[.int .i64 0, .slice none 0 0, .slice none 0 0] 39)
    simpa using this
  have hs2 : w2.heap.size = w.heap.size + 2 := by rw [← hw2]; simp
  have hb2 : Below w.heap.size w w2 := by rw [← hw2]; exact ((Below.refl _ _).alloc (Nat.le_refl _) _).alloc (by simp) _
  clear hw2
  refine (firstNumbers_any N w2 (by omega)).mono ?_
  rintro e w3 ⟨An, cn, rfl, hown3, hb3⟩
  rw [hs2] at hown3 hb3
  have hn3 : w3.ownsRow (w.heap.size + 2) 3 1 (.slice An N cn) N ((ups N).map I) := by
    have h : w3.ownsRow _ _ _ _ _ _ := hown3
    rw [ups_length] at h
    exact h
  have Q0 := Lib.hid ((hb3.block w.heap.size (by omega)).trans q0)
  have Q1 := Lib.hid ((hb3.block (w.heap.size + 1) (by omega)).trans q1)
  have HN3 := Lib.hid hn3
  have HB3 := Lib.hid (hb2.trans (hb3.mono (show w.heap.size ≤ w.heap.size + 2 by omega)))
  have hs3 : w.heap.size + 2 ≤ w3.heap.size := by have := hb3.size; omega
  have y1 : w3.cell? ⟨w.heap.size, 1, none⟩ = some (.slice A1 p.s.length c1) := by rw [cell_of_row w3 _ 1 _ _ (0, 0) Q0.out]; rfl
  clear q0 q1 hs2 hb2 hown3 hb3 hn3
  go_wp2
  clear y1
  go_loopw [6, 19] (fun nv iv wr => ∃ (k : Nat) (A4 : Option Addr) (c4 : Nat), k ≤ p.s.length ∧ iv = .int .i64 k ∧ nv = .slice A4 (N + k) c4 ∧ wr.ownsRow (w.heap.size + 2) 3 1 (.slice A4 (N + k) c4) (N + k) ((ups N ++ List.replicate k (-1 : Int)).map I) ∧ Below (w.heap.size + 2) w3 wr) (fun _ i _ => p.s.length - (intOf i).toNat)
  case atStart => exact ⟨0, An, cn, by omega, rfl, rfl, by simpa using HN3.out, Below.refl _ _⟩
  case round =>
    obtain ⟨k, A4, c4, hk, rfl, rfl, hown, hbel⟩ := hrel
    have hsz : w.heap.size + 2 ≤ wr.heap.size := by have := hbel.size; omega
    by_cases hlt : k < p.s.length
    · have OWN := Lib.hid hown
      have HBL := Lib.hid hbel
      clear hown hbel
      go_wp2_with (at_builtin; refine list_step (fun K hK => ?_); refine step_app1 Try.underlying22 info_int rfl (by omega) rfl (.tmp 21) (.tmp 22) rfl (w.heap.size + 2) (N + k) _ _ rfl (World.ownsRow.alloc OWN.out _) wr.heap.size 1 (I (-1)) rfl (by simp) rfl (by omega) (by simp; omega) ?_; intro A5 c5 w5 hown5 hg5 hbel5; go_simp; refine hK _ _ ?_; clear hK K)
      go_roundw
      case rel =>
        refine ⟨k + 1, A5, c5, by omega, by go_num, rfl, ?_, (HBL.out.alloc hsz _).trans hbel5⟩
        have h := hown5
        rw [show (ups N ++ List.replicate k (-1 : Int)).map I ++ [I (-1)] = (ups N ++ List.replicate (k + 1) (-1 : Int)).map I by rw [List.replicate_succ']; simp] at h
        exact h
      case measure => simp [intOf]; omega
    · have hk' : k = p.s.length := by omega
      subst hk'
      rw [nm_start] at hown
      obtain ⟨gn, rfl, hgn, _, _, _⟩ := own_at hown (by omega)
      have OWN := Lib.hid hown
      have HBL := Lib.hid hbel
      clear hown hbel hsz
      go_wp2
      go_loopw [7, 27] (fun sv iv wq => ∃ (k : Nat) (A5 : Option Addr) (c5 : Nat), k ≤ l.length ∧ iv = .int .i64 k ∧ sv = .slice A5 k c5 ∧ wq.ownsRow (w.heap.size + 2) 51 2 (.slice A5 k c5) k (fl (keepS p N l k)) ∧
        wq.ownsRow (w.heap.size + 2) 3 1 (.slice (some ⟨gn, 0, none⟩) (N + p.s.length) c4) (N + p.s.length) ((nmT N p.s.length (l.take k)).map I) ∧ kOk N p l k = true ∧ Below (w.heap.size + 2) w3 wq) (fun _ i _ => l.length - (intOf i).toNat)
      case atStart => exact ⟨0, none, 0, by omega, rfl, rfl, World.ownsRow_nil _ _ _ _, by simpa using OWN.out, rfl, HBL.out⟩
      case round =>
        obtain ⟨k, A5, c5, hk, rfl, rfl, hown, hnm, hkok, hbel⟩ := hrel
        have hsz : w.heap.size + 2 ≤ wr.heap.size := by have := hbel.size; omega
        have r0 := (hbel.block w.heap.size (by omega)).trans Q0.out
        have r1 := (hbel.block (w.heap.size + 1) (by omega)).trans Q1.out
        have a0 : wr.cell? ⟨w.heap.size, 0, none⟩ = some (.int .i64 (N : Int)) := by rw [cell_of_row wr _ 0 _ _ (0, 0) r0]; rfl
        have a1 : wr.cell? ⟨w.heap.size, 1, none⟩ = some (.slice A1 p.s.length c1) := by rw [cell_of_row wr _ 1 _ _ (0, 0) r0]; rfl
        have a2 : wr.cell? ⟨w.heap.size, 2, none⟩ = some (.slice A2 p.o.length c2) := by rw [cell_of_row wr _ 2 _ _ (0, 0) r0]; rfl
        by_cases hlt : k < l.length
        · obtain ⟨o1, o2⟩ := HLR.out _ (List.getElem_mem hlt)
          obtain ⟨n, hn⟩ : ∃ n : Nat, l[k] = n := ⟨(l[k]).toNat, by omega⟩
          have hns : n < p.s.length := by omega
          have ins : (n : Int) < (p.s.length : Int) := by omega
          have hbw : Below w.heap.size w wr := HB3.out.trans (hbel.mono (by omega))
          obtain ⟨lb, lo, rfl, hlb, hlc⟩ := (HL.out.below' hbw hB).int hlt
          rw [hn] at hlc
          obtain ⟨sb, off, rfl, hsb, hc1, hc2⟩ := (H.out.1.below' hbw hB).stp hns
          obtain ⟨s1, s2, s3⟩ := HO.out n hns
          obtain ⟨a, ha⟩ : ∃ a : Nat, (p.s[n]).1 = a := ⟨(p.s[n]).1.toNat, by omega⟩
          obtain ⟨b, hb⟩ : ∃ b : Nat, (p.s[n]).2 = b := ⟨(p.s[n]).2.toNat, by omega⟩
          rw [ha] at hc1 s1 s2
          rw [hb] at hc2 s2 s3
          have hsa := stepAt_eq hlt hn hns
          have hst := keepS_succ (p := p) (N := N) hlt hn hns
          rw [ha, hb] at hst
          have haR : a < N + p.s.length := by omega
          have hbR : b < N + p.s.length := by omega
          have iaR : (a : Int) < (N : Int) + (p.s.length : Int) := by omega
          have ibR : (b : Int) < (N : Int) + (p.s.length : Int) := by omega
          have hca : wr.cell? ⟨gn, a, none⟩ = some (.int .i64 (nmI N (l.take k) a)) := by
            rw [hnm.cellAt _ (by omega), List.getElem?_map, List.getElem?_eq_getElem (by rw [nmT_length]; exact haR), nmT_at _ _ _ haR]; rfl
          have hcb : wr.cell? ⟨gn, b, none⟩ = some (.int .i64 (nmI N (l.take k) b)) := by
            rw [hnm.cellAt _ (by omega), List.getElem?_map, List.getElem?_eq_getElem (by rw [nmT_length]; exact hbR), nmT_at _ _ _ hbR]; rfl
          have hR1 : ∀ o, (wr.alloc o).heap[w.heap.size + 1]? = some (.cells #[.int .i64 0, .slice none 0 0, .slice none 0 0] 39 (0, 0)) := fun o => (Below.heap_alloc wr o _ (by omega)).trans r1
          have t0 : ∀ o, (wr.alloc o).cell? ⟨w.heap.size + 1, 0, none⟩ = some (.int .i64 0) := fun o => by rw [cell_of_row _ _ 0 _ _ (0, 0) (hR1 o)]; rfl
          have t1 : ∀ o, (wr.alloc o).cell? ⟨w.heap.size + 1, 1, none⟩ = some (.slice none 0 0) := fun o => by rw [cell_of_row _ _ 1 _ _ (0, 0) (hR1 o)]; rfl
          have t2 : ∀ o, (wr.alloc o).cell? ⟨w.heap.size + 1, 2, none⟩ = some (.slice none 0 0) := fun o => by rw [cell_of_row _ _ 2 _ _ (0, 0) (hR1 o)]; rfl
          have g0 : ∀ o, (wr.alloc o).frozen? ⟨w.heap.size + 1, 0, none⟩ = false := fun o => frozen_of_row _ _ 0 _ _ (hR1 o)
          have g1 : ∀ o, (wr.alloc o).frozen? ⟨w.heap.size + 1, 1, none⟩ = false := fun o => frozen_of_row _ _ 1 _ _ (hR1 o)
          have g2 : ∀ o, (wr.alloc o).frozen? ⟨w.heap.size + 1, 2, none⟩ = false := fun o => frozen_of_row _ _ 2 _ _ (hR1 o)
          have ka := cell_kept hca
          have kb := cell_kept hcb
          have OW := Lib.hid hown
          have NM := Lib.hid hnm
          have HBQ := Lib.hid hbel
          have KOK := Lib.hid hkok
          have HNN := Lib.hid hn
          have HST := Lib.hid hst
          have HSA := Lib.hid hsa
          have HA := Lib.hid ha
          have HBb := Lib.hid hb
          have HBW := Lib.hid hbw
          clear hown hnm hbel hkok hn hst hsa ha hb hbw s1 s2 s3 o1 o2 r0 r1 hR1 hca hcb
          cases hqa : nmOk N (l.take k) (a : Int) with
          | false =>
            have hf : kOk N p l l.length = false := kOk_false hlt (by rw [HSA.out, HA.out, hqa]; rfl)
            have HF := Lib.hid hf
            rw [nm_bad hqa] at ka
            clear hf hqa kb
            go_wp2
            refine bodyPost_ret (v := .tuple #[.agg #[.int .i64 0, .slice none 0 0, .slice none 0 0], .bool false]) (by simp [results, Try.results84, go_sem, t0, t1, t2]) rfl (keepPost_none HF.out ?_)
            exact (((HBW.out.alloc HBW.out.size _).setCell (by simp) _).setCell (by simp) _).setCell (by simp) _
          | true =>
            have hx0 := nm_nonneg (show (0 : Int) ≤ (a : Int) by omega) hqa
            rw [nm_good hqa] at ka
            obtain ⟨x, hx⟩ : ∃ x, numI N l (a : Int) = x := ⟨_, rfl⟩
            rw [hx] at ka hx0
            have hxe : (x == (-1 : Int)) = false := by rw [beq_eq_false_iff_ne]; omega
            have HX := Lib.hid hx
            have HQA := Lib.hid hqa
            clear hx hqa hx0
            cases hqb : nmOk N (l.take k) (b : Int) with
            | false =>
              have hf : kOk N p l l.length = false := kOk_false hlt (by rw [HSA.out, HBb.out, hqb, Bool.and_false])
              have HF := Lib.hid hf
              rw [nm_bad hqb] at kb
              clear hf hqb
              go_wp2
              refine bodyPost_ret (v := .tuple #[.agg #[.int .i64 0, .slice none 0 0, .slice none 0 0], .bool false]) (by simp [results, Try.results84, go_sem, t0, t1, t2]) rfl (keepPost_none HF.out ?_)
              exact (((HBW.out.alloc HBW.out.size _).setCell (by simp) _).setCell (by simp) _).setCell (by simp) _
            | true =>
              have hy0 := nm_nonneg (show (0 : Int) ≤ (b : Int) by omega) hqb
              rw [nm_good hqb] at kb
              obtain ⟨y, hy⟩ : ∃ y, numI N l (b : Int) = y := ⟨_, rfl⟩
              rw [hy] at kb hy0
              have hye : (y == (-1 : Int)) = false := by rw [beq_eq_false_iff_ne]; omega
              have HY := Lib.hid hy
              have HQB := Lib.hid hqb
              have hst := HST.out
              rw [HX.out, HY.out] at hst
              have HST2 := Lib.hid hst
              have hE := fun W hBW hrW => renamedStep_any wr.heap.size a b (some ⟨gn, 0, none⟩) c4 (nmT N p.s.length (l.take k)) W hBW (by rw [nmT_length]; exact haR) (by rw [nmT_length]; exact hbR) hrW
              have ea : (nmT N p.s.length (l.take k))[a]'(by rw [nmT_length]; exact haR) = x := by rw [nmT_at _ _ _ haR, nm_good HQA.out, HX.out]
              have eb : (nmT N p.s.length (l.take k))[b]'(by rw [nmT_length]; exact hbR) = y := by rw [nmT_at _ _ _ hbR, nm_good HQB.out, HY.out]
              simp only [ea, eb, nmT_length] at hE
              have HE := Lib.hid hE
              clear hy hqb hy0 hst hE ea eb t0 t1 t2 g0 g1 g2
              go_wp2_with fail
              go_at_call 95
              generalize hw4 : World.alloc wr _ = w4
              obtain ⟨e0, e1, es, eb⟩ := box2 hw4
              clear hw4
              refine (HE.out w4 eb.size ((Rd.of_own NM.out).below eb)).mono ?_
              rintro e w5 ⟨rfl, hb5⟩
              have hb45 : Below wr.heap.size wr w5 := eb.trans (hb5.mono eb.size)
              have OW5 := Lib.hid (own_below OW.out hb45)
              have NM5 := Lib.hid (own_below NM.out hb45)
              have HB5 := Lib.hid (HBQ.out.trans (hb45.mono hsz))
              have hs5 : w.heap.size + 2 ≤ w5.heap.size := by have := hb45.size; omega
              have v0 := (hb45.cell (p := ⟨w.heap.size, 0, none⟩) (by simp only []; omega)).trans a0
              clear hb5 hb45 eb e0 e1 es ka kb a0 a1 a2
              go_wp2_with (
                at_builtin
                refine list_step (fun K hK => ?_)
                refine step_app2 Try.underlying26 info_step rfl (by omega) rfl (.tmp 53) (.tmp 57) rfl (w.heap.size + 2) k _ (fl (keepS p N l k)) rfl (World.ownsRow.alloc OW5.out _) w5.heap.size 1 (I (leastI x y)) (I (mostI x y)) rfl (by simp) (by simp) rfl rfl (by omega) (by simp; omega) ?_
                intro A6 c6 w8 hown8 hg8 hbel8
                have nm8 := World.ownsRow.kept (World.ownsRow.alloc NM5.out _) hg8 (own_ne NM5.out OW5.out (by decide))
                obtain ⟨u8, hu8⟩ : ∃ u, w8.cell? ⟨gn, N + n, none⟩ = some (.int .i64 u) := ⟨_, by rw [nm8.cellAt _ (by omega), List.getElem?_map, List.getElem?_eq_getElem (by rw [nmT_length]; omega)]; rfl⟩
                have f8 := nm8.frozenAt (N + n)
                have v8 := (hbel8.cell (p := ⟨w.heap.size, 0, none⟩) (by simp)).trans ((World.cell?_alloc_lt w5 _ ⟨w.heap.size, 0, none⟩ (by simp only []; omega)).trans v0)
                have NM8 := Lib.hid nm8
                have OW8 := Lib.hid hown8
                have HB8 := Lib.hid ((HB5.out.alloc hs5 _).trans hbel8)
                clear nm8 hown8 hg8 hbel8
                go_simp
                refine hK _ _ ?_
                clear hK K)
              go_roundw
              case rel =>
                refine ⟨k + 1, A6, c6, by omega, by go_num, rfl, ?_, ?_, ?_, HB8.out.setCell hgn _⟩
                · rw [HST2.out, fl_snoc]
                  exact own_store_other OW8.out NM8.out (by decide) _
                · have h := (NM8.out.stored (N + n) (I ((N : Int) + (k : Int)))).1
                  have hlk : (l.take k).length = k := by simp; omega
                  have hnot : hasI (l.take k) (n : Int) = false := by rw [← HNN.out]; exact has_take_nodup HND.out hlt
                  rw [← List.map_set, nm_set hnot hlk, ← HNN.out, ← List.take_succ_eq_append_getElem hlt] at h
                  exact h
                · rw [kOk_succ, KOK.out, HSA.out, HA.out, HBb.out, HQA.out, HQB.out]
                  rfl
              case measure => simp [intOf]; omega
        · have hk' : k = l.length := by omega
          subst hk'
          rw [List.take_of_length_le (Nat.le_refl _)] at hnm
          have hbw : Below w.heap.size w wr := HB3.out.trans (hbel.mono (by omega))
          have hlist : (p.o.map fun x => (nmT N p.s.length l).getD x.toNat 0) = keepO p N l p.o.length := by
            unfold keepO
            rw [List.take_of_length_le (Nat.le_refl _)]
            apply List.map_congr_left
            intro v hv
            obtain ⟨v1, v2⟩ := HOUT.out v hv
            have hc := HCOV.out v hv
            obtain ⟨v', rfl⟩ : ∃ v' : Nat, v = v' := ⟨v.toNat, by omega⟩
            have hvl : v' < N + p.s.length := by omega
            have e1 : (nmT N p.s.length l).getD v' 0 = (nmT N p.s.length l)[v']'(by rw [nmT_length]; exact hvl) := by simp [nmT_length, hvl]
            rw [Int.toNat_natCast, e1, nmT_at _ _ _ hvl]
            have h2 := nm_good (l := l) (k := l.length) (v := (v' : Int)) (by rw [List.take_of_length_le (Nat.le_refl _)]; exact hc)
            rw [List.take_of_length_le (Nat.le_refl _)] at h2
            exact h2
          have hR := fun W hBW hro hrn => renamed_any wr.heap.size A2 (some ⟨gn, 0, none⟩) c2 c4 p.o (nmT N p.s.length l) W ho6 hBW (fun v hv => by have := HOUT.out v hv; rw [nmT_length]; omega) hro hrn
          rw [hlist, nmT_length] at hR
          have HREN := Lib.hid hR
          have FSH := Lib.hid (show ∀ x, Below wr.heap.size wr x → x.cell? ⟨w.heap.size, 0, none⟩ = some (.int .i64 (N : Int)) ∧ x.cell? ⟨w.heap.size, 1, none⟩ = some (.slice A1 p.s.length c1) ∧ x.cell? ⟨w.heap.size, 2, none⟩ = some (.slice A2 p.o.length c2) from fun x hx =>
            ⟨(hx.cell (p := ⟨w.heap.size, 0, none⟩) (by simp only []; omega)).trans a0, (hx.cell (p := ⟨w.heap.size, 1, none⟩) (by simp only []; omega)).trans a1, (hx.cell (p := ⟨w.heap.size, 2, none⟩) (by simp only []; omega)).trans a2⟩)
          have S0 := Lib.hid (show Below wr.heap.size wr wr.drew from (Below.refl _ _).drew)
          have R1 := Lib.hid r1
          have OW := Lib.hid hown
          have NM := Lib.hid hnm
          have KOK := Lib.hid hkok
          have HBW := Lib.hid hbw
          clear hlist hR hown hnm hkok hbel hbw r0 r1 a0 a1 a2
          go_wp2
          refine wp_region_T (fun x : World => Below wr.heap.size wr x) [0, 1, 2, 3, 4, 5, 6, 7, 9, 11] [2, 6] (.lp 0 (.lp 1 (.lp 3 (.lp 4 (.lp 5 (.lp 7 (.ls 2 (.ls 6 (.hv 8 (.lp 9 (.hv 10 (.lp 11 (.done))))))))))))) (by kernel_rfl) (by kernel_rfl) ?_
          (repeat (refine T_lp rfl (fun K hK => ?_); go_simp; refine hK _ ?_; clear hK K))
          refine T_ls1 (v := .int .i64 (N : Int)) rfl rfl S0.out (fun x hx => (by obtain ⟨h0, h1, h2⟩ := FSH.out x hx; go_simp)) (fun K hK => ?_)
          (go_simp; refine hK _ ?_; clear hK K)
          refine T_ls1 (v := .slice A2 p.o.length c2) rfl rfl S0.out (fun x hx => (by obtain ⟨h0, h1, h2⟩ := FSH.out x hx; go_simp)) (fun K hK => ?_)
          (go_simp; refine hK _ ?_; clear hK K)
          refine T_hvS rfl (fun K hK => ?_)
          go_simp
          go_at_call 96
          refine (HREN.out wr.drew (by simp) (((H.out.below' HBW.out hB).2.more (by omega)).drew) (Rd.of_own NM.out).drew).mono ?_
          rintro e w5 ⟨B2, d2, rfl, hown5, hb5⟩
          have hb45 : Below wr.heap.size wr w5 := (Below.refl _ _).drew.trans (hb5.mono (by simp))
          have r5 := (hb45.block (w.heap.size + 1) (by omega)).trans R1.out
          have t0 : w5.cell? ⟨w.heap.size + 1, 0, none⟩ = some (.int .i64 0) := by rw [cell_of_row w5 _ 0 _ _ (0, 0) r5]; rfl
          have t1 : w5.cell? ⟨w.heap.size + 1, 1, none⟩ = some (.slice none 0 0) := by rw [cell_of_row w5 _ 1 _ _ (0, 0) r5]; rfl
          have t2 : w5.cell? ⟨w.heap.size + 1, 2, none⟩ = some (.slice none 0 0) := by rw [cell_of_row w5 _ 2 _ _ (0, 0) r5]; rfl
          have g0 : w5.frozen? ⟨w.heap.size + 1, 0, none⟩ = false := frozen_of_row w5 _ 0 _ _ r5
          have g1 : w5.frozen? ⟨w.heap.size + 1, 1, none⟩ = false := frozen_of_row w5 _ 1 _ _ r5
          have g2 : w5.frozen? ⟨w.heap.size + 1, 2, none⟩ = false := frozen_of_row w5 _ 2 _ _ r5
          have R5 := Lib.hid r5
          have OW5 := Lib.hid (own_base (own_below OW.out hb45) (show w.heap.size ≤ w.heap.size + 2 by omega))
          have NW5 := Lib.hid (hown5.base (show w.heap.size ≤ wr.drew.heap.size by simp; omega))
          have HB5 := Lib.hid (HBW.out.trans (hb45.mono (by omega)))
          clear hown5 hb5 r5
          go_simp
          refine hK _ _ hb45 ?_
          clear hK K hb45
          (repeat (refine T_lp rfl (fun K hK => ?_); go_simp; refine hK _ ?_; clear hK K))
          (refine T_hv rfl (by kernel_rfl) (fun K hK => ?_); go_simp; refine hK _ _ ?_; clear hK K)
          (repeat (refine T_lp rfl (fun K hK => ?_); go_simp; refine hK _ ?_; clear hK K))
          refine T_done ?_
          go_wp2
          refine bodyPost_ret (v := .tuple #[.agg #[.int .i64 (N : Int), .slice A5 l.length c5, .slice B2 p.o.length d2], .bool true]) (by simp [results, Try.results84, go_sem, t0, t1, t2]) rfl ⟨?_, ?_⟩
          · exact ((HB5.out.setCell (by simp) _).setCell (by simp) _).setCell (by simp) _
          · rw [if_pos KOK.out]
            refine ⟨A5, B2, c5, d2, rfl, ?_, ?_⟩
            · have h := own_set3 OW5.out R5.out (by decide) (.int .i64 (N : Int)) (.slice A5 l.length c5) (.slice B2 p.o.length d2)
              show World.ownsRow _ _ _ _ _ _ _
              rw [keepS_len p N l (Nat.le_refl _)]
              exact h
            · exact own_set3 NW5.out R5.out (by decide) (.int .i64 (N : Int)) (.slice A5 l.length c5) (.slice B2 p.o.length d2)
end Go.Proofs.Ytbbjgcagkmlngac
