/- Paths to a value, by the program. -/
import Derived.Test.YtlkieebmfmiafaaJy
import Derived.Test.YtlkieebmfmiafaaUu
import Derived.Shelf.RegionOpen
import Derived.Test.YtlkieebmfmiafaaKc
import Derived.Test.YtlkieebmfmiafaaRn
namespace Go.Proofs.Ytlkieebmfmiafaa
open Go.RowKit Go.Shelf

attribute [local go_sem] Oper.semAt_some

/-- What a round does, whatever the numbers. -/
def wb1 (N : Nat) (s : List (Int × Int)) (l : List Int) (i : Nat) : List Int := l.set (st1 s i) (IntKind.i64.wrap (l.getD (st1 s i) 0 + l.getD (N + i) 0))
def wb (N : Nat) (s : List (Int × Int)) (l : List Int) (i : Nat) : List Int := (wb1 N s l i).set (st2 s i) (IntKind.i64.wrap ((wb1 N s l i).getD (st2 s i) 0 + (wb1 N s l i).getD (N + i) 0))
def wbF (N R e : Nat) (s : List (Int × Int)) (pre : List (Fin s.length)) : List Int := pre.foldl (fun l i => wb N s l i.val) ((List.replicate R 0).set e 1)
theorem wb_len (N : Nat) (s : List (Int × Int)) (l : List Int) (i : Nat) : (wb N s l i).length = l.length := by simp [wb, wb1]
theorem wbF_len (N R e : Nat) (s : List (Int × Int)) (pre : List (Fin s.length)) : (wbF N R e s pre).length = R := by
  have key : ∀ (pre : List (Fin s.length)) (l : List Int), (pre.foldl (fun l i => wb N s l i.val) l).length = l.length := by
    intro pre
    induction pre with
    | nil => intro l; rfl
    | cons i pre ih => intro l; rw [List.foldl_cons, ih, wb_len]
  unfold wbF
  rw [key]
  simp
theorem wbF_snoc (N R e : Nat) (s : List (Int × Int)) (pre : List (Fin s.length)) (i : Fin s.length) : wbF N R e s (pre ++ [i]) = wb N s (wbF N R e s pre) i.val := by
  unfold wbF
  rw [List.foldl_append]
  rfl
theorem wbF_bw {N R e : Nat} {s : List (Int × Int)} (hR : R = N + s.length) (hs : Bfr N s) (he : e < R) (h40 : s.length ≤ 40) : ∀ j, j ≤ s.length → wbF N R e s (dwn s.length j) = bw N R e s j := by
  intro j
  induction j with
  | zero => intro _; rfl
  | succ j ih =>
    intro hj
    rw [dwn_succ (by omega), wbF_snoc, ih (by omega)]
    obtain ⟨i, hi⟩ : ∃ i, s.length - 1 - j = i := ⟨_, rfl⟩
    obtain ⟨h1, h2⟩ := hs i (by omega)
    have nn := bw_nonneg hR hs he j (by omega)
    have nn1 := bw_nonneg hR hs he (j + 1) hj
    have le1 : ∀ v, v < N + (s.length - (j + 1)) → (bw N R e s (j + 1)).getD v 0 ≤ 1099511627776 := fun v hv => Int.le_trans (bw_le hR hs he hj hv) (pa_big hR h40 hs (by omega) he).2
    have le0 : ∀ v, v < N + (s.length - j) → (bw N R e s j).getD v 0 ≤ 1099511627776 := fun v hv => Int.le_trans (bw_le hR hs he (by omega) hv) (pa_big hR h40 hs (by omega) he).2
    have q1 := nn (st1 s i)
    have q2 := nn (N + i)
    have q3 := le0 (st1 s i) (by omega)
    have q4 := le0 (N + i) (by omega)
    have w1 : wb1 N s (bw N R e s j) i = bw1 N s (bw N R e s j) i := by
      unfold wb1 bw1
      rw [IntWalk.i64_in _ (by omega)]
    have hl1 : (bw1 N s (bw N R e s j) i).length = R := by rw [bw1_len, bw_len]
    have hNi : (bw1 N s (bw N R e s j) i).getD (N + i) 0 = (bw N R e s j).getD (N + i) 0 := by
      unfold bw1
      rw [getD_setI _ _ _ _ (by rw [bw_len]; omega), if_neg (by omega)]
    have q5 : 0 ≤ (bw1 N s (bw N R e s j) i).getD (st2 s i) 0 ∧ (bw1 N s (bw N R e s j) i).getD (st2 s i) 0 ≤ 2199023255552 := by
      unfold bw1
      rw [getD_setI _ _ _ _ (by rw [bw_len]; omega)]
      have q6 := nn (st2 s i)
      have q7 := le0 (st2 s i) (by omega)
      split <;> omega
    show wb N s (bw N R e s j) (s.length - 1 - j) = _
    simp only [bw]
    rw [hi]
    unfold wb
    rw [w1, hNi, IntWalk.i64_in _ (by omega)]

theorem pt_boxes {w w3 : World} {a b c d v : Value} {n : Nat} {cs : Array Value} (hn : n = w.heap.size) (h : ((w.alloc (.cells #[a, b, c, d] 72)).alloc (.cells cs 3)).alloc (.cells #[v] 23) = w3) :
    w3.heap[n]? = some (.cells #[a, b, c, d] 72 (0, 0)) ∧ w3.heap[n + 1]? = some (.cells cs 3 (0, 0)) ∧ w3.heap[n + 2]? = some (.cells #[v] 23 (0, 0)) ∧ w3.heap.size = n + 3 ∧ Below n w w3 := by
  subst hn
  have h1 := heap_alloc_new w (.cells #[a, b, c, d] 72)
  have h2 := heap_alloc_new (w.alloc (.cells #[a, b, c, d] 72)) (.cells cs 3)
  have h3 := heap_alloc_new ((w.alloc (.cells #[a, b, c, d] 72)).alloc (.cells cs 3)) (.cells #[v] 23)
  rw [h] at h3
  simp only [World.size_alloc] at h2 h3
  have b2 := Below.heap_alloc ((w.alloc (.cells #[a, b, c, d] 72)).alloc (.cells cs 3)) (.cells #[v] 23)
  rw [h] at b2
  refine ⟨(b2 _ (by simp; omega)).trans ((Below.heap_alloc _ _ _ (by simp)).trans h1), (b2 _ (by simp)).trans h2, h3, by rw [← h]; simp, ?_⟩
  rw [← h]
  exact (((Below.refl _ _).alloc (Nat.le_refl _) _).alloc (by simp) _).alloc (by simp; omega) _

theorem blkD_own {W W' : World} {row : Option Nat} {x : Nat} {cs : Array Value} {t : TypeId} (h : W.heap[x]? = some (.cells cs t (0, 0))) (hg : W.grownBy W' row) (hr : ∀ r, row = some r → ∃ o : Obj, W.heap[r]? = some o ∧ o.isCells = false) :
    W'.heap[x]? = some (.cells cs t (0, 0)) :=
  (hg.block x (Array.getElem?_eq_some_iff.1 h).1 (fun e => by obtain ⟨o, ho, hc⟩ := hr x e.symm; rw [h] at ho; cases ho; cases hc)).trans h
theorem row_own {β : Type} (n₀ : Nat) (e : TypeId) (size : Nat) (v : Value) (k : Nat) (f : β → List Value) (_ : Unit) : Own (fun s W => W.ownsRow n₀ e size v k (f s)) := by
  intro s X Y row hr hg hrow
  refine hr.kept hg ?_
  rcases hr.2 with ⟨rfl, _⟩ | ⟨g, cap, cur, rfl, _, hgb, _⟩
  · exact .inl rfl
  · right
    intro e'
    obtain ⟨o, ho, hc⟩ := hrow g e'.symm
    rw [hgb] at ho
    cases ho
    cases hc

set_option maxRecDepth 100000 in
set_option maxHeartbeats 4000000 in
theorem pathsTo_any (B N R e : Nat) (A1 A2 A : Option Addr) (c1 c2 c : Nat) (p : Pl) (w : World) (hs40 : p.s.length ≤ 40) (hR : R = N + p.s.length) (h6 : N ≤ 6) (he : e < R) (hB : B ≤ w.heap.size) (hs : Bfr N p.s) (hok : OkS N p.s) (hr : RdP w B A1 A2 p) :
    Calls Try.prog 76 #[.agg #[.int .i64 N, .slice A1 p.s.length c1, .slice A2 p.o.length c2, .slice A R c], .int .i64 (e : Int)] w fun en w' =>
      ∃ A' c', en = .returned (.slice A' R c') ∧ w'.ownsRow w.heap.size 3 1 (.slice A' R c') R ((bw N R e p.s p.s.length).map I) ∧ Below w.heap.size w w' := by
  have H := Lib.hid hr
  have EB := Lib.hid (wbF_bw hR hs he hs40 p.s.length (Nat.le_refl _))
  have HOK := Lib.hid hok
  have HR := Lib.hid hR
  have hR46 : R ≤ 46 := by omega
  have ieR : (e : Int) < (R : Int) := by omega
  clear hs hok hr hR
  have hmk := run_make_row' (P := Try.prog) 23 3 (.int .i64 0) 8 Try.underlying23 info_int rfl .i64 .i64 R (by omega) (by omega)
  refine (callsIn_wide (n := 3)).1 ?_
  refine callsIn_of_wp_marks Try.func76 rfl trivial ?_ rfl
  simp only [Try.ntmps76, List.size_toArray, List.length_cons, List.length_nil, Nat.reduceAdd, Nat.reduceSub, Array.replicate_succ, Array.replicate_zero, List.push_toArray, List.append_toArray, List.nil_append, List.cons_append]
  obtain ⟨w3, hw3⟩ : ∃ w3, ((w.alloc (.cells #[.int .i64 N, .slice A1 p.s.length c1, .slice A2 p.o.length c2, .slice A R c] 72)).alloc (.cells (madeCells #[.int .i64 0] R) 3)).alloc (.cells #[.slice (some ⟨w.heap.size + 1, 0, none⟩) R R] 23) = w3 := ⟨_, rfl⟩
  obtain ⟨b0, b1, b2, bs, bb⟩ := pt_boxes rfl hw3
  have hrow : w3.ownsRow (w.heap.size + 1) 3 1 (.slice (some ⟨w.heap.size + 1, 0, none⟩) R R) R ((List.replicate R (0 : Int)).map I) := by
    have h := zeros_row (w := w.alloc (.cells #[.int .i64 N, .slice A1 p.s.length c1, .slice A2 p.o.length c2, .slice A R c] 72)) (B := w.heap.size + 1) R (by omega) (by simp)
    simp only [World.size_alloc] at h
    have h2 := own_below h (show Below _ _ w3 from by rw [← hw3]; exact (Below.refl _ _).alloc (Nat.le_refl _) _)
    rw [List.map_replicate]
    exact h2
  have hce := OwI.cellD hrow he
  have hfe : w3.frozen? ⟨w.heap.size + 1, e, none⟩ = false := hrow.frozenAt _
  have hrow4 := OwI.set (a := e) hrow 1
  obtain ⟨w4, hw4⟩ : ∃ w4, w3.setCell ⟨w.heap.size + 1, e, none⟩ (.int .i64 1) = w4 := ⟨_, rfl⟩
  rw [hw4] at hrow4
  have d0 : w4.heap[w.heap.size]? = some (.cells #[.int .i64 N, .slice A1 p.s.length c1, .slice A2 p.o.length c2, .slice A R c] 72 (0, 0)) := by rw [← hw4]; exact (Below.heap_setCell w3 ⟨w.heap.size + 1, e, none⟩ _ w.heap.size (by simp only []; omega)).trans b0
  have d2 : w4.heap[w.heap.size + 2]? = some (.cells #[.slice (some ⟨w.heap.size + 1, 0, none⟩) R R] 23 (0, 0)) := by rw [← hw4]; exact (Below.heap_setCell w3 ⟨w.heap.size + 1, e, none⟩ _ (w.heap.size + 2) (by simp only []; omega)).trans b2
  have v2 : w3.cell? ⟨w.heap.size + 1 + 1, 0, none⟩ = some (.slice (some ⟨w.heap.size + 1, 0, none⟩) R R) := by rw [cell_of_row w3 (w.heap.size + 1 + 1) 0 _ _ (0, 0) b2]; rfl
  have v1 : w4.cell? ⟨w.heap.size, 1, none⟩ = some (.slice A1 p.s.length c1) := by rw [cell_of_row w4 w.heap.size 1 _ _ (0, 0) d0]; rfl
  have hs4 : w4.heap.size = w.heap.size + 3 := by rw [← hw4]; simpa [World.setCell] using bs
  have hb4 : Below w.heap.size w w4 := by rw [← hw4]; exact bb.setCell (by simp) _
  have HB4 := Lib.hid hb4
  have ROW := Lib.hid hrow4
  have D0 := Lib.hid d0
  have D2 := Lib.hid d2
  have HS4 := Lib.hid hs4
  have hce0 : w3.cell? ⟨w.heap.size + 1, e, none⟩ = some (.int .i64 ((List.replicate R (0 : Int)).getD e 0)) := hce
  clear b0 b1 b2 bs bb hrow hce hrow4 d0 d2 hs4 hb4
  gi_wp2_with fail
  refine ⟨trivial, ?_⟩
  gi_at_call 117
  refine (backStep_in Fence.wide _ trivial rfl _ _ _ _).mono ?_
  rintro en w' ⟨rfl, hww⟩
  subst hww
  gi_wp2_with fail
  obtain ⟨w5, hw5⟩ : ∃ w5, w4.alloc (.cells #[.slice A1 p.s.length c1] 29) = w5 := ⟨_, rfl⟩
  rw [hw5]
  have hb5 : Below w4.heap.size w4 w5 := by rw [← hw5]; exact (Below.refl _ _).alloc (Nat.le_refl _) _
  have z5 : w5.heap[w4.heap.size]? = some (.cells #[.slice A1 p.s.length c1] 29 (0, 0)) := by rw [← hw5]; exact heap_alloc_new w4 _
  have hs5 : w5.heap.size = w4.heap.size + 1 := by rw [← hw5]; simp
  have hs45 : w4.heap.size = w.heap.size + 3 := HS4.out
  have HB5 := Lib.hid (HB4.out.trans (hb5.mono (by omega)))
  have ROW5 := Lib.hid (own_below ROW.out hb5)
  have D05 := Lib.hid ((hb5.block w.heap.size (by omega)).trans D0.out)
  have D25 := Lib.hid ((hb5.block (w.heap.size + 2) (by omega)).trans D2.out)
  have HRD := Lib.hid (show ∀ W', Below w.heap.size w5 W' → Rd W' w.heap.size 2 A1 p.s.length (fl p.s) from fun W' h => (H.out.1.below' (HB5.out.trans h) hB).more hB)
  have Z5 := Lib.hid z5
  have hs5' : w4.heap.size + 1 ≤ w5.heap.size := by omega
  have hs45' : w.heap.size + 3 ≤ w4.heap.size := by omega
  have hs5'' : w5.heap.size ≤ w4.heap.size + 1 := by omega
  clear hw5 hb5 z5 hs5 hs45
  refine wpIn_rangeFunc_ownH (w0 := w5) rfl (by omega) (gf := 133) (lb := #[.pointer (some ⟨w4.heap.size, 0, none⟩)]) rfl trivial (enters_of Try.func133 (by kernel_rfl) rfl)
    (backStep_stops Fence.wide _ trivial rfl (by omega) w4.heap.size w.heap.size A1 c1 p.s (by omega) w5 (by omega) Z5.out HRD.out) kpD_t (kpD_b (by omega) (by omega)) (Below.refl _ _) (fun _ => rfl)
    (fun pre W => W.ownsRow (w.heap.size + 1) 3 1 (.slice (some ⟨w.heap.size + 1, 0, none⟩) R R) R ((wbF N R e p.s pre).map I) ∧ (W.heap[w.heap.size]? = some (.cells #[.int .i64 N, .slice A1 p.s.length c1, .slice A2 p.o.length c2, .slice A R c] 72 (0, 0)) ∧ (W.heap[w.heap.size + 2]? = some (.cells #[.slice (some ⟨w.heap.size + 1, 0, none⟩) R R] 23 (0, 0)) ∧ (W.heap[w4.heap.size]? = some (.cells #[.slice A1 p.s.length c1] 29 (0, 0)) ∧ Below w.heap.size w W))))
    (fun _ _ _ => False)
    (OwnFrom.and (Own.from (row_own _ _ _ _ _ _ ()) _) (OwnFrom.and (Own.from (fun s A B row hs hg hr => blkD_own hs hg hr) _) (OwnFrom.and (Own.from (fun s A B row hs hg hr => blkD_own hs hg hr) _) (OwnFrom.and (Own.from (fun s A B row hs hg hr => blkD_own hs hg hr) _) (ownFrom_below (Nat.le_refl _) (by omega))))))
    (fun _ _ _ _ _ hs _ _ => hs)
    ⟨ROW5.out, D05.out, D25.out, Z5.out, HB5.out⟩
    (fun x a' W => ∃ g : Nat, w5.heap.size ≤ g ∧ W.heap[g]? = some (.cells #[.int .i64 (p.s[x.val]).1, .int .i64 (p.s[x.val]).2] 94 (0, 0)) ∧ a' = { tmps := #[.agg #[.int .i64 N, .slice A1 p.s.length c1, .slice A2 p.o.length c2, .slice A R c], .int .i64 (e : Int), .pointer (some ⟨w.heap.size, 0, none⟩), undef, .slice none 0 0, .pointer (some ⟨w.heap.size + 1 + 1, 0, none⟩), .int .i64 ((x.val : Nat) : Int), .pointer (some ⟨g, 0, none⟩), .pointer (some ⟨w.heap.size, 3, none⟩), .pointer (some ⟨w.heap.size, 3, none⟩), .slice A R c, .int .i64 (R : Int), .slice (some ⟨w.heap.size + 1, 0, none⟩) R R, .slice (some ⟨w.heap.size + 1, 0, none⟩) R R, .int .i64 (e : Int), .pointer (some ⟨w.heap.size + 1, e, none⟩), .pointer (some ⟨w.heap.size, 0, none⟩), .pointer (some ⟨w.heap.size, 1, none⟩), .slice A1 p.s.length c1, .func (.func 133) #[] #[.pointer (some ⟨w4.heap.size, 0, none⟩)], .int .i64 ((x.val : Nat) : Int), .agg #[.int .i64 (p.s[x.val]).1, .int .i64 (p.s[x.val]).2], undef, undef, undef, undef, undef, undef, undef, undef, undef, undef, undef, undef, undef, undef, undef, undef, undef, undef, undef, undef, undef, undef, undef, undef, undef, undef, undef, undef, undef, undef, undef], defers := [] })
    (fun x a' => by
      rintro _ X Y row ⟨g, h1, h2, h3⟩ hg hr
      exact ⟨g, h1, blkD_own h2 hg (fun r e => (hr r e).2), h3⟩) ?assign ?body ?done ?stop
  case assign =>
    intro l pre x W K hI hK
    simp only [stE]
    gi_wp2
    obtain ⟨i1, i2, i3, i4, i5⟩ := hI
    have hlt4 : w4.heap.size < W.heap.size := (Array.getElem?_eq_some_iff.1 i4).1
    have hsW := i5.size
    refine hK _ _ ((KeepsOthers.alloc W _).from _) ⟨(Below.refl _ _).alloc hsW _, fun hl => Below.heap_alloc _ _ _ hl⟩ ⟨World.ownsRow.alloc i1 _, ?_, ?_, ?_, i5.alloc hsW _⟩ ⟨W.heap.size, by omega, heap_alloc_new W _, rfl⟩
    · exact (Below.heap_alloc W _ _ (by omega)).trans i2
    · exact (Below.heap_alloc W _ _ (by omega)).trans i3
    · exact (Below.heap_alloc W _ _ (by omega)).trans i4
  case body =>
    rintro lr pre x a' W _ _ ⟨i1, i2, i3, i4, i5⟩ ⟨g, hg, hgb, rfl⟩ _
    have hlt4 : w4.heap.size < W.heap.size := (Array.getElem?_eq_some_iff.1 i4).1
    have hsW := i5.size
    obtain ⟨o1, o2, o3⟩ := HOK.out x.val x.isLt
    have EF := Lib.hid (wbF_snoc N R e p.s pre x)
    have hLl := wbF_len N R e p.s pre
    obtain ⟨L, hL⟩ : ∃ L, wbF N R e p.s pre = L := ⟨_, rfl⟩
    rw [hL] at i1 EF hLl
    obtain ⟨i, hi⟩ : ∃ i : Nat, x.val = i := ⟨_, rfl⟩
    have hil : i < p.s.length := by rw [← hi]; exact x.isLt
    have hst : p.s.getD i (0, 0) = p.s[i] := by simp [hil]
    simp only [hi] at o1 o2 o3 hgb EF ⊢
    obtain ⟨a, ha⟩ : ∃ a : Nat, (p.s[i]).1 = a := ⟨(p.s[i]).1.toNat, by omega⟩
    obtain ⟨b, hb⟩ : ∃ b : Nat, (p.s[i]).2 = b := ⟨(p.s[i]).2.toNat, by omega⟩
    have h1 : st1 p.s i = a := by unfold st1; rw [hst, ha]; exact Int.toNat_natCast a
    have h2 : st2 p.s i = b := by unfold st2; rw [hst, hb]; exact Int.toNat_natCast b
    have EF2 := Lib.hid (show wbF N R e p.s (pre ++ [x]) = (L.set a (IntKind.i64.wrap (L.getD a 0 + L.getD (N + i) 0))).set b (IntKind.i64.wrap ((L.set a (IntKind.i64.wrap (L.getD a 0 + L.getD (N + i) 0))).getD b 0 + (L.set a (IntKind.i64.wrap (L.getD a 0 + L.getD (N + i) 0))).getD (N + i) 0)) by
      rw [EF.out]
      unfold wb wb1
      rw [h1, h2])
    rw [ha, hb] at hgb ⊢
    have hRn := HR.out
    have haR : a < R := by omega
    have hbR : b < R := by omega
    have hiR : N + i < R := by omega
    have iaR : (a : Int) < (R : Int) := by omega
    have ibR : (b : Int) < (R : Int) := by omega
    have iiR : (N : Int) + (i : Int) < (R : Int) := by omega
    obtain ⟨k0, k1, _, _⟩ := us_cells hgb
    have k2 : W.cell? ⟨w.heap.size + 1 + 1, 0, none⟩ = some (.slice (some ⟨w.heap.size + 1, 0, none⟩) R R) := by rw [cell_of_row W (w.heap.size + 1 + 1) 0 _ _ (0, 0) i3]; rfl
    have k3 : W.cell? ⟨w.heap.size, 0, none⟩ = some (.int .i64 N) := by rw [cell_of_row W w.heap.size 0 _ _ (0, 0) i2]; rfl
    have m1 := OwI.cellD i1 haR
    have m2 := OwI.cellD i1 hiR
    have m3 : W.frozen? ⟨w.heap.size + 1, a, none⟩ = false := i1.frozenAt _
    have row1 := OwI.set (a := a) i1 (IntKind.i64.wrap (L.getD a 0 + L.getD (N + i) 0))
    obtain ⟨v1, hv1⟩ : ∃ v, IntKind.i64.wrap (L.getD a 0 + L.getD (N + i) 0) = v := ⟨_, rfl⟩
    obtain ⟨W1, hW1⟩ : ∃ W1, W.setCell ⟨w.heap.size + 1, a, none⟩ (.int .i64 v1) = W1 := ⟨_, rfl⟩
    rw [hv1, hW1] at row1
    rw [hv1] at EF2
    have sk : ∀ (X : World) (o : Nat) (u : Value) (k : Nat), k ≠ w.heap.size + 1 → (X.setCell ⟨w.heap.size + 1, o, none⟩ u).heap[k]? = X.heap[k]? := fun X o u k hk => Below.heap_setCell X ⟨w.heap.size + 1, o, none⟩ u k hk
    have n1 : W1.heap[g]? = W.heap[g]? := by rw [← hW1]; exact sk _ _ _ _ (by omega)
    have n2 : W1.heap[w.heap.size + 1 + 1]? = W.heap[w.heap.size + 1 + 1]? := by rw [← hW1]; exact sk _ _ _ _ (by omega)
    have n3 : W1.heap[w.heap.size]? = W.heap[w.heap.size]? := by rw [← hW1]; exact sk _ _ _ _ (by omega)
    obtain ⟨q0, q1, _, _⟩ := us_cells (n1.trans hgb)
    have q2 : W1.cell? ⟨w.heap.size + 1 + 1, 0, none⟩ = some (.slice (some ⟨w.heap.size + 1, 0, none⟩) R R) := by rw [cell_of_row W1 (w.heap.size + 1 + 1) 0 _ _ (0, 0) (n2.trans i3)]; rfl
    have q3 : W1.cell? ⟨w.heap.size, 0, none⟩ = some (.int .i64 N) := by rw [cell_of_row W1 w.heap.size 0 _ _ (0, 0) (n3.trans i2)]; rfl
    have q4 := OwI.cellD row1 hbR
    have q5 := OwI.cellD row1 hiR
    have q6 : W1.frozen? ⟨w.heap.size + 1, b, none⟩ = false := row1.frozenAt _
    obtain ⟨x1, hx1⟩ : ∃ y, L.getD a 0 = y := ⟨_, rfl⟩
    obtain ⟨x2, hx2⟩ : ∃ y, L.getD (N + i) 0 = y := ⟨_, rfl⟩
    obtain ⟨x3, hx3⟩ : ∃ y, (L.set a v1).getD b 0 = y := ⟨_, rfl⟩
    obtain ⟨x4, hx4⟩ : ∃ y, (L.set a v1).getD (N + i) 0 = y := ⟨_, rfl⟩
    rw [hx1] at m1
    rw [hx2] at m2
    rw [hx3] at q4
    rw [hx4] at q5
    rw [hx1, hx2] at hv1
    rw [hx3, hx4] at EF2
    have R1 := Lib.hid row1
    have NN := Lib.hid (And.intro n1 (And.intro n2 n3))
    have II := Lib.hid (And.intro i2 (And.intro i3 (And.intro i4 i5)))
    have SK := Lib.hid sk
    have HRn := Lib.hid hRn
    clear EF hLl hL hst o1 o2 o3 ha hb h1 h2 row1 sk n1 n2 n3 i1 i2 i3 i4 i5 hx1 hx2 hx3 hx4 hRn
    obtain ⟨j, hj⟩ : ∃ j, N + i = j := ⟨_, rfl⟩
    have hwn : IntKind.i64.wrap ((N : Int) + (i : Int)) = (j : Int) := by rw [IntWalk.i64_in _ (by omega)]; omega
    rw [hj] at m2 q5 hiR
    have ijR : (j : Int) < (R : Int) := by omega
    clear iiR hj
    gi_wp2
    refine wp_region_Jw (fun _ => trivial) [0, 1, 2, 3, 4, 5, 6, 7, 8, 9, 10, 11, 12, 13, 14] [0, 2, 4, 5, 8, 12] (.lp 1 (.lp 6 (.lp 7 (.lp 9 (.ls 0 (.ls 2 (.lp 3 (.ls 4 (.ls 5 (.ls 8 (.lp 10 (.lp 11 (.ls 12 (.lp 13 (.lp 14 (.hv 15 (.done))))))))))))))))) (by kernel_rfl) (by kernel_rfl) ?_
    (repeat (first | (refine J_lp rfl (fun K hK => ?_); go_simp; refine hK _ ?_; clear hK K) | (refine J_ls rfl rfl (fun K hK => ?_); go_simp; refine hK _ ?_; clear hK K)))
    (refine J_hv rfl (by kernel_rfl) (fun K hK => ?_); go_simp; refine hK _ _ ?_; clear hK K)
    refine J_done ?_
    gi_wp2
    refine wp_region_Jw (fun _ => trivial) [0, 1, 2, 3, 4, 5, 6, 7, 8, 9, 10, 11, 12, 13, 14] [0, 2, 4, 5, 8, 12] (.lp 1 (.lp 6 (.lp 7 (.lp 9 (.ls 0 (.ls 2 (.lp 3 (.ls 4 (.ls 5 (.ls 8 (.lp 10 (.lp 11 (.ls 12 (.lp 13 (.lp 14 (.hv 15 (.done))))))))))))))))) (by kernel_rfl) (by kernel_rfl) ?_
    (repeat (first | (refine J_lp rfl (fun K hK => ?_); go_simp; refine hK _ ?_; clear hK K) | (refine J_ls rfl rfl (fun K hK => ?_); go_simp; refine hK _ ?_; clear hK K)))
    (refine J_hv rfl (by kernel_rfl) (fun K hK => ?_); go_simp; refine hK _ _ ?_; clear hK K)
    refine J_done ?_
    gi_wp2
    have row2 := OwI.set (a := b) R1.out (IntKind.i64.wrap (x3 + x4))
    rw [← EF2.out] at row2
    obtain ⟨i2, i3, i4, i5⟩ := II.out
    obtain ⟨W2, hW2⟩ : ∃ W2, W1.setCell ⟨w.heap.size + 1, b, none⟩ (.int .i64 (IntKind.i64.wrap (x3 + x4))) = W2 := ⟨_, rfl⟩
    rw [hW2] at row2 ⊢
    have hall : ∀ k, k ≠ w.heap.size + 1 → W2.heap[k]? = W.heap[k]? := fun k hk => by
      rw [← hW2, SK.out _ _ _ _ hk, ← hW1]
      exact SK.out _ _ _ _ hk
    have hko : KeepsOthers W W2 := by rw [← hW2, ← hW1]; exact (KeepsOthers.setCell _ _ _).trans (KeepsOthers.setCell _ _ _)
    have hbw : Below w.heap.size W W2.drew.drew := by rw [← hW2, ← hW1]; exact (((Below.refl _ _).setCell (by simp) _).setCell (by simp) _).drew.drew
    exact ⟨KeepsFrom.trans (hko.from _) ⟨Nat.le_refl _, fun _ _ _ h _ => h⟩, ⟨hbw, fun _ => hall _ (by omega)⟩, row2, (hall _ (by omega)).trans i2, (hall _ (by omega)).trans i3, (hall _ (by omega)).trans i4, i5.trans hbw⟩
  case done =>
    rintro D' ys W hD' rfl ⟨hrow, i2, i3, i4, hbel⟩ hK
    rw [EB.out] at hrow
    have xb : W.cell? ⟨w.heap.size + 1 + 1, 0, none⟩ = some (.slice (some ⟨w.heap.size + 1, 0, none⟩) R R) := by rw [cell_of_row W (w.heap.size + 1 + 1) 0 _ _ (0, 0) i3]; rfl
    have BEL := Lib.hid hbel
    have ROWW := Lib.hid hrow
    clear hbel hrow i2 i3 i4
    gi_wp2
    refine ⟨by simp, .inl ⟨_, _, rfl, run_takeDeferred hK, ?_⟩⟩
    exact ⟨_, results_tmp rfl _ _ _, _, _, rfl, ownsRow_putObj (own_base ROWW.out (by omega)) _ hK rfl, BEL.out.trans (belowK_b (w := w) (Nat.le_refl _) W D' _ _ (by omega) hK rfl rfl)⟩
  case stop =>
    rintro D' c' pre W _ _ h _
    exact h.elim
end Go.Proofs.Ytlkieebmfmiafaa
