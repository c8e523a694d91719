/- PickOutputs: what both sides answer; the model's. -/
import Derived.Test.YtppfpdobdoaoiabKb
import Derived.Test.YtppfpdobdoaoiabKc
namespace Go.Proofs.Ytppfpdobdoaoiab
open Go.RowKit

theorem boxes2b {w w2 : World} {a b c : Value} {t : TypeId} (h : (w.alloc (.cells #[a, b, c] t)).alloc (.cells #[.int .i64 0, .slice none 0 0, .slice none 0 0] 29) = w2) :
    w2.heap[w.heap.size]? = some (.cells #[a, b, c] t (0, 0)) ∧ w2.heap[w.heap.size + 1]? = some (.cells #[.int .i64 0, .slice none 0 0, .slice none 0 0] 29 (0, 0)) ∧ w2.heap.size = w.heap.size + 2 ∧ Below w.heap.size w w2 := by
  subst h
  refine ⟨?_, ?_, by simp, ((Below.refl _ _).alloc (Nat.le_refl _) _).alloc (by simp) _⟩
  · rw [Below.heap_alloc _ _ _ (by simp)]; exact heap_alloc_new w _
  · have := heap_alloc_new (w.alloc (.cells #[a, b, c] t)) (.cells #[.int .i64 0, .slice none 0 0, .slice none 0 0] 29)
    simpa using this
theorem cells3b {w : World} {g : Nat} {a b c : Value} {t : TypeId} (h : w.heap[g]? = some (.cells #[a, b, c] t (0, 0))) :
    w.cell? ⟨g, 0, none⟩ = some a ∧ w.cell? ⟨g, 1, none⟩ = some b ∧ w.cell? ⟨g, 2, none⟩ = some c ∧ w.frozen? ⟨g, 0, none⟩ = false ∧ w.frozen? ⟨g, 1, none⟩ = false ∧ w.frozen? ⟨g, 2, none⟩ = false := by
  refine ⟨?_, ?_, ?_, frozen_of_row w _ 0 _ _ h, frozen_of_row w _ 1 _ _ h, frozen_of_row w _ 2 _ _ h⟩
  · rw [cell_of_row w _ 0 _ _ (0, 0) h]; rfl
  · rw [cell_of_row w _ 1 _ _ (0, 0) h]; rfl
  · rw [cell_of_row w _ 2 _ _ (0, 0) h]; rfl
def selV (b : Bool) (x y : Value) : Value := if b then x else y
def zeroQ : Pl := ⟨0, [], []⟩
theorem OwP.zeroQ (w : World) (B : Nat) : OwP w B none none 0 0 zeroQ := ⟨World.ownsRow_nil _ _ _ _, World.ownsRow_nil _ _ _ _⟩

def pickO (p : Pl) (l : List Int) (k : Nat) : List Int := (l.take k).map fun i => p.o.getD i.toNat 0
def pickB (p : Pl) (l : List Int) : Bool := good p && (allB l 0 ((p.o.length : Int) - 1) && decide (l.length ≤ 6))
def pickR (p : Pl) (l : List Int) : Pl := if pickB p l then ⟨p.n, p.s, pickO p l l.length⟩ else zeroQ
theorem pickO_len (p : Pl) (l : List Int) {k : Nat} (hk : k ≤ l.length) : (pickO p l k).length = k := by simp [pickO]; omega
theorem pickO_succ {p : Pl} {l : List Int} {k v : Nat} (hk : k < l.length) (hv : l[k] = (v : Int)) (hvl : v < p.o.length) : pickO p l (k + 1) = pickO p l k ++ [p.o[v]] := by
  unfold pickO
  rw [List.take_succ_eq_append_getElem hk, List.map_append, hv]
  simp [hvl]
theorem pickR_len (p : Pl) (l : List Int) : (pickR p l).s.length ≤ 1000 ∧ (pickR p l).o.length ≤ 1000 := by
  unfold pickR
  split
  · rename_i h
    unfold pickB at h
    simp only [Bool.and_eq_true, decide_eq_true_eq] at h
    obtain ⟨_, _, _, _, h40, _⟩ := good_facts h.1
    simp only
    rw [pickO_len p l (Nat.le_refl _)]
    omega
  · simp [zeroQ]
theorem all_in {l : List Int} {m : Int} (h : allB l 0 m = true) : ∀ x ∈ l, 0 ≤ x ∧ x ≤ m := by
  intro x hx
  unfold allB at h
  rw [List.all_eq_true] at h
  have := h x hx
  simpa [inB] using this
/-- The plan with picked outputs is a plan, unless there are too many of them. -/
theorem good_pick {p : Pl} {l : List Int} (hg : good p = true) (ha : allB l 0 ((p.o.length : Int) - 1) = true) : good ⟨p.n, p.s, pickO p l l.length⟩ = decide (l.length ≤ 6) := by
  have hin := all_in ha
  have hlen := pickO_len p l (Nat.le_refl _)
  have ho : allB (pickO p l l.length) 0 (p.n + p.s.length - 1) = true := by
    unfold good at hg
    simp only [Bool.and_eq_true] at hg
    have hall := hg.2.2.2.2.2
    unfold allB at hall ⊢
    rw [List.all_eq_true] at hall ⊢
    intro x hx
    unfold pickO at hx
    rw [List.take_of_length_le (Nat.le_refl _)] at hx
    obtain ⟨i, hi, rfl⟩ := List.mem_map.1 hx
    obtain ⟨h0, h1⟩ := hin i hi
    have hlt : i.toNat < p.o.length := by omega
    have e : p.o.getD i.toNat 0 = p.o[i.toNat] := by simp [hlt]
    rw [e]
    exact hall _ (List.getElem_mem hlt)
  unfold good at hg ⊢
  simp only [Bool.and_eq_true] at hg
  obtain ⟨g1, g2, _, g4, g5, _⟩ := hg
  simp only [g1, g2, g4, g5, ho, hlen, Bool.true_and, Bool.and_true]

set_option maxRecDepth 100000 in
set_option maxHeartbeats 1000000 in
theorem plOwn_any (B : Nat) (A1 A2 : Option Addr) (c1 c2 : Nat) (p : Pl) (w : World) (hB : B ≤ w.heap.size) (hls : p.s.length ≤ 1000) (hlo : p.o.length ≤ 1000) (hr : RdP w B A1 A2 p) :
    Calls Try.prog 42 #[.agg #[.int .i64 p.n, .slice A1 p.s.length c1, .slice A2 p.o.length c2]] w fun e w' =>
      ∃ B1 B2 d1 d2, e = .returned (.agg #[.int .i64 p.n, .slice B1 p.s.length d1, .slice B2 p.o.length d2]) ∧ OwP w' w.heap.size B1 B2 d1 d2 p ∧ Below w.heap.size w w' := by
  have H := Lib.hid hr
  clear hr
  go_enter Try.func42, Try.ntmps42
  go_wp2
  generalize hw1 : World.alloc (World.alloc w _) _ = w1
  obtain ⟨q0, q1, xs, xb⟩ := boxes2b hw1
  clear hw1
  obtain ⟨y0, y1, y2, _, _, _⟩ := cells3b q0
  have Q1 := Lib.hid q1
  have XB := Lib.hid xb
  have FS := Lib.hid (show ∀ x, Below w1.heap.size w1 x → x.cell? ⟨w.heap.size, 0, none⟩ = some (.int .i64 p.n) ∧ x.cell? ⟨w.heap.size, 1, none⟩ = some (.slice A1 p.s.length c1) ∧ x.cell? ⟨w.heap.size, 2, none⟩ = some (.slice A2 p.o.length c2) from fun x hx =>
    ⟨(hx.cell (p := ⟨w.heap.size, 0, none⟩) (by simp only []; omega)).trans y0, (hx.cell (p := ⟨w.heap.size, 1, none⟩) (by simp only []; omega)).trans y1, (hx.cell (p := ⟨w.heap.size, 2, none⟩) (by simp only []; omega)).trans y2⟩)
  have S0 := Lib.hid (show Below w1.heap.size w1 w1.drew from (Below.refl _ _).drew)
  clear q0 q1 xb y0 y1 y2
  refine wp_region_T (fun x : World => Below w1.heap.size w1 x) [0, 1, 3, 4, 6, 7, 9] [1, 4, 7] (.lp 0 (.lp 3 (.lp 6 (.ls 1 (.ls 4 (.ls 7 (.hv 2 (.hv 5 (.hv 8 (.lp 9 (.hv 10 (.done)))))))))))) (by kernel_rfl) (by kernel_rfl) ?_
  (repeat (refine T_lp rfl (fun K hK => ?_); go_simp; refine hK _ ?_; clear hK K))
  refine T_ls1 (v := .int .i64 p.n) rfl rfl S0.out (fun x hx => (by obtain ⟨h0, h1, h2⟩ := FS.out x hx; go_simp)) (fun K hK => ?_)
  (go_simp; refine hK _ ?_; clear hK K)
  refine T_ls1 (v := .slice A1 p.s.length c1) rfl rfl S0.out (fun x hx => (by obtain ⟨h0, h1, h2⟩ := FS.out x hx; go_simp)) (fun K hK => ?_)
  (go_simp; refine hK _ ?_; clear hK K)
  refine T_ls1 (v := .slice A2 p.o.length c2) rfl rfl S0.out (fun x hx => (by obtain ⟨h0, h1, h2⟩ := FS.out x hx; go_simp)) (fun K hK => ?_)
  (go_simp; refine hK _ ?_; clear hK K)
  refine T_hvS rfl (fun K hK => ?_)
  go_simp
  refine hK _ _ (S0.out.alloc (Nat.le_refl _) _) ?_
  clear hK K
  refine T_hvS rfl (fun K hK => ?_)
  have hb1 : Below w.heap.size w (w1.alloc (Obj.cells #[] 60)).drew := XB.out.trans ((((Below.refl _ w1).alloc (Nat.le_refl _) _).drew).mono (by omega))
  have he := own_empty (w := w1) (B := w1.heap.size) (e := 60) 2 (Nat.le_refl _)
  rw [xs] at he
  refine step_appM Try.underlying27 info_step rfl (by omega) (by omega) rfl (.tmp 5) (.tmp 7) rfl (w.heap.size + 2) 0 _ [] rfl he A1 p.s.length c1 (fl p.s) rfl ((H.out.below' hb1 hB).1) (fl_one p.s) (by omega) (by simp; omega) ?_
  intro A4 c4 w4 hown4 hg4 hbel4
  have hb14 : Below w1.heap.size w1 w4 := (((Below.refl _ w1).alloc (Nat.le_refl _) _).drew).trans (hbel4.mono (by omega))
  go_simp
  refine hK _ _ hb14 ?_
  clear hK K hb1 he
  have hs4 := hb14.size
  have hbw4 : Below w.heap.size w w4 := XB.out.trans (hb14.mono (by omega))
  have OS := Lib.hid hown4
  have HB14 := Lib.hid hb14
  have HBW := Lib.hid hbw4
  clear hown4 hg4 hbel4 hb14 hbw4
  refine T_hvS rfl (fun K hK => ?_)
  go_simp
  go_at_call 30
  refine (l1Own_any B A2 c2 p.o w4 (by omega) (by omega) (H.out.below' HBW.out hB).2).mono ?_
  rintro e w5 ⟨A5, c5, rfl, hown5, hb5⟩
  have hb15 : Below w1.heap.size w1 w5 := HB14.out.trans (hb5.mono hs4)
  have r5 := (hb15.block (w.heap.size + 1) (by omega)).trans Q1.out
  obtain ⟨t0, t1, t2, g0, g1, g2⟩ := cells3b r5
  have R5 := Lib.hid r5
  have OS5 := Lib.hid (own_base (own_below OS.out hb5) (show w.heap.size ≤ w.heap.size + 2 by omega))
  have OI5 := Lib.hid (hown5.base (show w.heap.size ≤ w4.heap.size by omega))
  have HB5 := Lib.hid (XB.out.trans (hb15.mono (by omega)))
  go_simp
  refine hK _ _ hb15 ?_
  clear hK K r5 hown5 hb5 hb15
  (repeat (refine T_lp rfl (fun K hK => ?_); go_simp; refine hK _ ?_; clear hK K))
  (refine T_hv rfl (by kernel_rfl) (fun K hK => ?_); go_simp; refine hK _ _ ?_; clear hK K)
  refine T_done ?_
  go_wp2
  refine bodyPost_ret (v := .agg #[.int .i64 p.n, .slice A4 p.s.length c4, .slice A5 p.o.length c5]) (by simp [results, Try.results42, go_sem, t0, t1, t2]) rfl ⟨A4, A5, c4, c5, rfl, ⟨?_, ?_⟩, ?_⟩
  · have h := own_set3 OS5.out R5.out (by decide) (.int .i64 p.n) (.slice A4 p.s.length c4) (.slice A5 p.o.length c5)
    simp only [Nat.zero_add, List.nil_append] at h
    exact h
  · exact own_set3 OI5.out R5.out (by decide) _ _ _
  · exact ((HB5.out.setCell (by simp) _).setCell (by simp) _).setCell (by simp) _

set_option maxRecDepth 100000 in
set_option maxHeartbeats 1000000 in
theorem plIf_any (B : Nat) (A1 A2 : Option Addr) (c1 c2 : Nat) (p : Pl) (w : World) (hB : B ≤ w.heap.size) (hls : p.s.length ≤ 2000000) (hlo : p.o.length ≤ 2000000) (hr : RdP w B A1 A2 p) :
    Calls Try.prog 29 #[.agg #[.int .i64 p.n, .slice A1 p.s.length c1, .slice A2 p.o.length c2]] w fun e w' =>
      e = .returned (.tuple #[selV (good p) (.agg #[.int .i64 p.n, .slice A1 p.s.length c1, .slice A2 p.o.length c2]) (.agg #[.int .i64 0, .slice none 0 0, .slice none 0 0]), .bool (good p)]) ∧ Below w.heap.size w w' := by
  have H := Lib.hid hr
  clear hr
  obtain ⟨gd, hgd⟩ : ∃ x, good p = x := ⟨_, rfl⟩
  have HG := Lib.hid hgd
  go_enter Try.func29, Try.ntmps29
  go_wp2_with fail
  go_at_call 26
  generalize hw1 : World.alloc (World.alloc w _) _ = w1
  obtain ⟨q0, q1, xs, xb⟩ := boxes2b hw1
  clear hw1
  have hC := plGood_any w.heap.size A1 A2 c1 c2 p w1 (by omega) hls hlo ((H.out.below' xb hB).more hB)
  rw [hgd] at hC
  refine hC.mono ?_
  rintro e w2 ⟨rfl, hb2⟩
  clear hC hgd
  obtain ⟨y0, y1, y2, _, _, _⟩ := cells3b ((hb2.block w.heap.size (by omega)).trans q0)
  obtain ⟨t0, t1, t2, g0, g1, g2⟩ := cells3b ((hb2.block (w.heap.size + 1) (by omega)).trans q1)
  have HB2 := Lib.hid (xb.trans (hb2.mono (show w.heap.size ≤ w1.heap.size by omega)))
  clear q0 q1 xs xb hb2
  cases gd with
  | false =>
    go_wp2
    refine bodyPost_ret (v := .tuple #[.agg #[.int .i64 0, .slice none 0 0, .slice none 0 0], .bool false]) (by simp [results, Try.results29, go_sem, t0, t1, t2]) rfl ⟨by rw [HG.out]; rfl, ?_⟩
    exact ((HB2.out.setCell (by simp) _).setCell (by simp) _).setCell (by simp) _
  | true =>
    go_wp2
    refine bodyPost_ret (v := .tuple #[.agg #[.int .i64 p.n, .slice A1 p.s.length c1, .slice A2 p.o.length c2], .bool true]) (by simp [results, Try.results29, go_sem, t0, t1, t2]) rfl ⟨by rw [HG.out]; rfl, ?_⟩
    exact ((HB2.out.setCell (by simp) _).setCell (by simp) _).setCell (by simp) _
end Go.Proofs.Ytppfpdobdoaoiab
