/- Code that is made op by op by the program; a code if it is one. -/
import Derived.Test.YtpopomcaknbhnaaH8k
import Derived.Test.YtpopomcaknbhnaaEa
import Derived.Test.YtpopomcaknbhnaaFa
namespace Go.Proofs.Ytpopomcaknbhnaa
open Go.RowKit

theorem boxes2c {w w1 : World} {a b c d : Value} {t t' : TypeId} (h : (w.alloc (.cells #[a, b] t)).alloc (.cells #[c, d] t') = w1) :
    w1.heap[w.heap.size]? = some (.cells #[a, b] t (0, 0)) ∧ w1.heap[w.heap.size + 1]? = some (.cells #[c, d] t' (0, 0)) ∧ w1.heap.size = w.heap.size + 2 ∧ Below w.heap.size w w1 := by
  subst h
  refine ⟨?_, ?_, by simp, ((Below.refl _ _).alloc (Nat.le_refl _) _).alloc (by simp) _⟩
  · rw [Below.heap_alloc _ _ _ (by simp)]; exact heap_alloc_new w _
  · have := heap_alloc_new (w.alloc (.cells #[a, b] t)) (.cells #[c, d] t')
    simpa using this
theorem frz2 {w : World} {g : Nat} {a b : Value} {t : TypeId} (h : w.heap[g]? = some (.cells #[a, b] t (0, 0))) : w.frozen? ⟨g, 0, none⟩ = false ∧ w.frozen? ⟨g, 1, none⟩ = false := ⟨frozen_of_row w g 0 _ _ h, frozen_of_row w g 1 _ _ h⟩
def selC (b : Bool) (u v : Value) : Value := if b then u else v
abbrev zeroK : Value := .agg #[.slice none 0 0, .int .i64 0]

set_option maxRecDepth 100000 in
set_option maxHeartbeats 2000000 in
theorem codeOrNone_any (B : Nat) (A : Option Addr) (c : Nat) (q : Cd) (w : World) (hB : B ≤ w.heap.size) (hl : q.ops.length ≤ 1048576) (hc : q.ops.length ≤ c) (hr : RdD w B A q) :
    Calls Try.prog 103 #[.agg #[.slice A q.ops.length c, .int .i64 q.out]] w fun e w' => e = .returned (.tuple #[selC (cdB q) (.agg #[.slice A q.ops.length c, .int .i64 q.out]) zeroK, .bool (cdB q)]) ∧ Below w.heap.size w w' := by
  have IC := Lib.hid (fun (W : World) (hb : Below w.heap.size w W) => implIsCode8_any B A c q W (by have := hb.size; omega) hl hc (hr.below' hb hB))
  clear hr
  obtain ⟨gd, hgd⟩ : ∃ x, cdB q = x := ⟨_, rfl⟩
  rw [hgd] at IC
  rw [hgd]
  clear hgd
  go_enter Try.func103, Try.ntmps103
  go_wp2_with fail
  go_at_call 22
  generalize hw1 : World.alloc (World.alloc w _) _ = w1
  obtain ⟨q0, q1, xs, xb⟩ := boxes2c hw1
  clear hw1
  refine (IC.out _ xb).mono ?_
  rintro e w2 ⟨rfl, hb2⟩
  obtain ⟨y0, y1⟩ := cells2 ((hb2.block w.heap.size (by omega)).trans q0)
  have r1 := (hb2.block (w.heap.size + 1) (by omega)).trans q1
  obtain ⟨t0, t1⟩ := cells2 r1
  obtain ⟨g0, g1⟩ := frz2 r1
  have HB2 := Lib.hid (xb.trans (hb2.mono (show w.heap.size ≤ w1.heap.size by omega)))
  clear q0 q1 xs xb hb2 r1
  cases gd with
  | false =>
    go_wp2
    refine bodyPost_ret (v := .tuple #[zeroK, .bool false]) (by simp [results, Try.results103, go_sem, t0, t1]) rfl ⟨rfl, ?_⟩
    exact (HB2.out.setCell (by simp) _).setCell (by simp) _
  | true =>
    go_wp2
    refine bodyPost_ret (v := .tuple #[.agg #[.slice A q.ops.length c, .int .i64 q.out], .bool true]) (by simp [results, Try.results103, go_sem, t0, t1]) rfl ⟨rfl, ?_⟩
    exact (HB2.out.setCell (by simp) _).setCell (by simp) _

set_option maxRecDepth 100000 in
set_option maxHeartbeats 2000000 in
theorem poIf_any (B : Nat) (A : Option Addr) (c : Nat) (q : Cd) (w : World) (hB : B ≤ w.heap.size) (hl : q.ops.length ≤ 1048576) (hr : RdD w B A q) :
    Calls Try.prog 88 #[.agg #[.slice A q.ops.length c, .int .i64 q.out]] w fun e w' => e = .returned (.tuple #[selC (cdB q) (.agg #[.slice A q.ops.length c, .int .i64 q.out]) zeroK, .bool (cdB q)]) ∧ Below w.heap.size w w' := by
  have IC := Lib.hid (fun (W : World) (hb : Below w.heap.size w W) => poGood_any B A c q W (by have := hb.size; omega) hl (hr.below' hb hB))
  clear hr
  obtain ⟨gd, hgd⟩ : ∃ x, cdB q = x := ⟨_, rfl⟩
  rw [hgd] at IC
  rw [hgd]
  clear hgd
  go_enter Try.func88, Try.ntmps88
  go_wp2_with fail
  go_at_call 65
  generalize hw1 : World.alloc (World.alloc w _) _ = w1
  obtain ⟨q0, q1, xs, xb⟩ := boxes2c hw1
  clear hw1
  refine (IC.out _ xb).mono ?_
  rintro e w2 ⟨rfl, hb2⟩
  obtain ⟨y0, y1⟩ := cells2 ((hb2.block w.heap.size (by omega)).trans q0)
  have r1 := (hb2.block (w.heap.size + 1) (by omega)).trans q1
  obtain ⟨t0, t1⟩ := cells2 r1
  obtain ⟨g0, g1⟩ := frz2 r1
  have HB2 := Lib.hid (xb.trans (hb2.mono (show w.heap.size ≤ w1.heap.size by omega)))
  clear q0 q1 xs xb hb2 r1
  cases gd with
  | false =>
    go_wp2
    refine bodyPost_ret (v := .tuple #[zeroK, .bool false]) (by simp [results, Try.results88, go_sem, t0, t1]) rfl ⟨rfl, ?_⟩
    exact (HB2.out.setCell (by simp) _).setCell (by simp) _
  | true =>
    go_wp2
    refine bodyPost_ret (v := .tuple #[.agg #[.slice A q.ops.length c, .int .i64 q.out], .bool true]) (by simp [results, Try.results88, go_sem, t0, t1]) rfl ⟨rfl, ?_⟩
    exact (HB2.out.setCell (by simp) _).setCell (by simp) _

/-- The program's maker of code: a box with the ops made so far, an own row. -/
def MkC (w : World) (g B : Nat) (s : List Op3) : Prop := ∃ A c, w.heap[g]? = some (.cells #[.slice A s.length c] 111 (0, 0)) ∧ OwO w B (.slice A s.length c) s
theorem one3 (k a b : Int) : ∀ u ∈ [I k, I a, I b], u.oneCell' = true := by
  intro u hu
  simp only [List.mem_cons, List.not_mem_nil, or_false] at hu
  rcases hu with rfl | rfl | rfl <;> rfl
theorem cell1 {w : World} {g : Nat} {a : Value} {t : TypeId} (h : w.heap[g]? = some (.cells #[a] t (0, 0))) : w.cell? ⟨g, 0, none⟩ = some a ∧ w.frozen? ⟨g, 0, none⟩ = false := by
  refine ⟨?_, frozen_of_row w g 0 _ _ h⟩
  rw [cell_of_row w g 0 _ _ (0, 0) h]; rfl

set_option maxRecDepth 100000 in
set_option maxHeartbeats 4000000 in
theorem add_any (g B : Nat) (s : List Op3) (k a b : Int) (w : World) (hgB : g ≤ B) (hB : B ≤ w.heap.size) (hs : s.length ≤ 1000) (h : MkC w g B s) :
    Calls Try.prog 135 #[.pointer (some ⟨g, 0, none⟩), .agg #[.int .i64 k, .int .i64 a, .int .i64 b]] w fun e w' => e = .returned (.int .i64 ((s.length : Int) + 1)) ∧ MkC w' g B (s ++ [(k, a, b)]) ∧ Below g w w' := by
  obtain ⟨A, c, hg, hown⟩ := h
  have hgs : g < w.heap.size := (Array.getElem?_eq_some_iff.1 hg).1
  have HG := Lib.hid hg
  have OWN := Lib.hid hown
  clear hg hown
  go_enter Try.func135, Try.ntmps135
  go_wp2
  generalize hw1 : World.alloc w _ = w1
  obtain ⟨x0, x1, x2, xs, xb⟩ := box3 hw1
  clear hw1
  have hg1 := (xb.block g hgs).trans HG.out
  have FX := Lib.hid (show ∀ x, Below w1.heap.size w1 x → x.cell? ⟨g, 0, none⟩ = some (.slice A s.length c) ∧ x.cell? ⟨w.heap.size, 0, none⟩ = some (.int .i64 k) ∧ x.cell? ⟨w.heap.size, 1, none⟩ = some (.int .i64 a) ∧ x.cell? ⟨w.heap.size, 2, none⟩ = some (.int .i64 b) from fun x hx => ⟨(cell1 ((hx.block g (by omega)).trans hg1)).1, (hx.cell (p := ⟨w.heap.size, 0, none⟩) (by simp only []; omega)).trans x0, (hx.cell (p := ⟨w.heap.size, 1, none⟩) (by simp only []; omega)).trans x1, (hx.cell (p := ⟨w.heap.size, 2, none⟩) (by simp only []; omega)).trans x2⟩)
  have SD := Lib.hid (show Below w1.heap.size w1 w1.drew from (Below.refl _ _).drew)
  have O1 := Lib.hid (own_below OWN.out xb)
  refine wp_region_T (fun x : World => Below w1.heap.size w1 x) [0, 1, 2, 3, 4, 5, 8, 9] [4, 5] (.lp 0 (.lp 1 (.lp 2 (.lp 3 (.ls 4 (.ls 5 (.hv 6 (.hv 7 (.lp 8 (.lp 9 (.hv 10 (.done)))))))))))) (by kernel_rfl) (by kernel_rfl) ?_
  generalize World.drew w1 = wd at SD ⊢
  have hsd := SD.out.size
  (repeat (refine T_lp rfl (fun K hK => ?_); go_simp; refine hK _ ?_; clear hK K))
  refine T_ls1 (v := .slice A s.length c) rfl rfl SD.out (fun x hx => (by have h1 := (FX.out x hx).1; go_simp)) (fun K hK => ?_)
  (go_simp; refine hK _ ?_; clear hK K)
  refine T_ls1 (v := .agg #[.int .i64 k, .int .i64 a, .int .i64 b]) rfl rfl SD.out (fun x hx => (by have h1 := (FX.out x hx).2.1; have h2 := (FX.out x hx).2.2.1; have h3 := (FX.out x hx).2.2.2; go_simp)) (fun K hK => ?_)
  (go_simp; refine hK _ ?_; clear hK K)
  refine T_hvS rfl (fun K hK => ?_)
  go_simp
  refine hK _ _ (SD.out.alloc SD.out.size _) ?_
  clear hK K
  have Od := Lib.hid (show (wd.alloc (.cells #[.int .i64 k, .int .i64 a, .int .i64 b] 80)).ownsRow B 80 3 (.slice A s.length c) s.length (fl3 s) from World.ownsRow.alloc (own_below O1.out SD.out) _)
  refine T_hv rfl (by kernel_rfl) (fun K hK => ?_)
  refine step_appN Try.underlying27 info_op8 rfl (by omega) (by omega) rfl (.tmp 9) (.tmp 11) rfl B s.length _ (fl3 s) rfl Od.out wd.heap.size 1 [I k, I a, I b] rfl rfl (fun j hj => by
    rw [World.cell?_alloc_at _ _ _ _ rfl]
    match j, hj with
    | 0, _ => rfl
    | 1, _ => rfl
    | 2, _ => rfl) (one3 k a b) (by omega) (by simp; omega) ?_
  intro A8 c8 w8 hown8 hg8 hbel8
  have hgd : w8.heap[g]? = some (.cells #[.slice A s.length c] 111 (0, 0)) := by
    have e1 : wd.heap[g]? = _ := (SD.out.block g (by omega)).trans hg1
    have e2 : (wd.alloc (.cells #[.int .i64 k, .int .i64 a, .int .i64 b] 80)).heap[g]? = _ := (Below.heap_alloc wd _ _ (by omega)).trans e1
    exact (hg8.block g (by simp; omega) (own_ne_blk Od.out e2 (by decide))).trans e2
  have HG8 := Lib.hid hgd
  have O8 := Lib.hid hown8
  have HB8 := Lib.hid (show Below g w w8 from (xb.mono (by omega)).trans ((SD.out.mono (by omega)).trans (((Below.refl _ _).alloc (by omega) _).trans (hbel8.mono hgB))))
  obtain ⟨c0, f0⟩ := cell1 hgd
  clear hown8 hg8 hbel8 hgd hg1 x0 x1 x2 xb
  (go_simp; refine hK _ _ ?_; clear hK K)
  (repeat (refine T_lp rfl (fun K hK => ?_); go_simp; refine hK _ ?_; clear hK K))
  (refine T_hv rfl (by kernel_rfl) (fun K hK => ?_); go_simp; refine hK _ _ ?_; clear hK K)
  refine T_done ?_
  go_wp2
  go_ret
  refine ⟨rfl, ⟨A8, c8, ?_, ?_⟩, HB8.out.setCell (by simp) _⟩
  · rw [heap_setCell_same w8 g 0 _ _ _ HG8.out, List.length_append]; rfl
  · unfold OwO
    rw [List.length_append, List.length_singleton, fl3_snoc]
    exact own_set O8.out HG8.out (by decide) _
set_option maxRecDepth 100000 in
set_option maxHeartbeats 1000000 in
theorem mkProduct_any (g B : Nat) (s : List Op3) (a b : Int) (w : World) (hgB : g ≤ B) (hB : B ≤ w.heap.size) (hs : s.length ≤ 1000) (h : MkC w g B s) :
    Calls Try.prog 102 #[.pointer (some ⟨g, 0, none⟩), .int .i64 a, .int .i64 b] w fun e w' => e = .returned (.int .i64 ((s.length : Int) + 1)) ∧ MkC w' g B (s ++ [(3, a, b)]) ∧ Below g w w' := by
  have AD := Lib.hid (add_any g B s 3 a b w hgB hB hs h)
  clear h
  go_enter Try.func102, Try.ntmps102
  go_wp2_with fail
  go_at_call 135
  refine AD.out.mono ?_
  rintro e w2 ⟨rfl, hm, hb⟩
  have HM := Lib.hid hm
  clear hm
  go_wp2
  go_ret
  exact ⟨rfl, HM.out, hb⟩

end Go.Proofs.Ytpopomcaknbhnaa
