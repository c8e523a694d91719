/- ParseSigned of the program. -/
import Derived.Test.YtbohakifjmdoiabDoorN9B
import Derived.Test.YtbohakifjmdoiabDoorN9C
import Derived.Lib.ConvBytes
namespace Go.Proofs.YtbohakifjmdoiabDoor
open Go.RowKit Go.Shelf

attribute [local go_sem] Oper.semAt_some

theorem lts_nil (s : ByteArray) : (s.toList == []) = decide ((lts s).length = 0) := by
  rw [ByteArray.toList_eq]
  unfold lts
  cases s.data.toList <;> simp

theorem two_new (w : World) (a b : Value) (t u : TypeId) : ((w.alloc (.cells #[a] t)).alloc (.cells #[b] u)).cell? ⟨w.heap.size, 0, none⟩ = some a ∧ ((w.alloc (.cells #[a] t)).alloc (.cells #[b] u)).cell? ⟨w.heap.size + 1, 0, none⟩ = some b ∧ Below w.heap.size w ((w.alloc (.cells #[a] t)).alloc (.cells #[b] u)) := by
  refine ⟨((Boxed.new w t a).alloc _).cell, ?_, ((Below.refl _ _).alloc (Nat.le_refl _) _).alloc (by simp) _⟩
  have := (Boxed.new (w.alloc (.cells #[a] t)) u b).cell
  rwa [World.size_alloc] at this

theorem blk_kept9 {W W' : World} {row : Option Nat} {x : Nat} {cs : Array Value} {t : TypeId} {fr : Nat × Nat} (h : W.heap[x]? = some (.cells cs t fr)) (hg : W.grownBy W' row) (hne : some x ≠ row) : W'.heap[x]? = some (.cells cs t fr) :=
  (hg.block x (Array.getElem?_eq_some_iff.1 h).1 hne).trans h
theorem blk_ownF {W W' : World} {row : Option Nat} {x : Nat} {cs : Array Value} {t : TypeId} {fr : Nat × Nat} (h : W.heap[x]? = some (.cells cs t fr)) (hg : W.grownBy W' row) (hr : ∀ r, row = some r → ∃ o : Obj, W.heap[r]? = some o ∧ o.isCells = false) :
    W'.heap[x]? = some (.cells cs t fr) :=
  blk_kept9 h hg (fun e => by obtain ⟨o, ho, hc⟩ := hr x e.symm; rw [h] at ho; cases ho; cases hc)
theorem blk_not_row {W : World} {x : Nat} {cs : Array Value} {t e : TypeId} {fr : Nat × Nat} (h : W.heap[x]? = some (.cells cs t fr)) (hte : t ≠ e) {base size k : Nat} {v : Value} {xs : List Value} (hr : W.ownsRow base e size v k xs) : some x ≠ v.ownBlock := by
  intro e'
  rcases hr.2 with ⟨rfl, _⟩ | ⟨g, cap, cur, rfl, _, hgb, _⟩
  · simp [Value.ownBlock] at e'
  · obtain rfl : x = g := by simpa [Value.ownBlock] using e'
    rw [hgb] at h
    cases h
    exact hte rfl
def gD (zs : List Int) (pre : List Nat) : List Int := pre.map fun j => dgL (zs.getD j 0)
theorem gD_snoc (zs : List Int) (pre : List Nat) (j : Nat) : gD zs (pre ++ [j]) = gD zs pre ++ [dgL (zs.getD j 0)] := by simp [gD]
theorem gD_len (zs : List Int) (pre : List Nat) : (gD zs pre).length = pre.length := by simp [gD]
theorem gD_all (zs : List Int) : gD zs (bwI zs.length zs.length) = pl zs zs.length := by simp [gD, bwI, bwd, pl]
theorem bwI_lt {n k j : Nat} (hk : k ≤ n) (h : j ∈ bwI n k) : j < n := by
  simp only [bwI, bwd, List.mem_map, List.mem_range] at h
  obtain ⟨i, hi, rfl⟩ := h
  omega
theorem bwI_mem {n i : Nat} (h : i < n) : n - 1 - i ∈ bwI n n := by
  simp only [bwI, bwd, List.mem_map, List.mem_range]
  exact ⟨i, h, rfl⟩
theorem rowW (w : World) (s : ByteArray) (t : TypeId) (zs : List Int) (hz : lts s = zs) (W' : World) (h : W'.heap[w.heap.size]? = (Lib.bytesWorld w t s).heap[w.heap.size]?) (gc : Nat) (_hg : s.size ≤ gc) :
    Rd W' (w.heap.size + 1) 1 (some ⟨w.heap.size, 0, none⟩) zs.length (zs.map (Value.int .u8)) := by
  have hl : zs.length = s.size := by rw [← hz, lts_len]
  refine ⟨by simp, fun _ => ⟨w.heap.size, 0, rfl, by omega, fun j hj => ?_⟩⟩
  have hj2 : j < s.size := by omega
  have hc : W'.cell? ⟨w.heap.size, j, none⟩ = (Lib.bytesWorld w t s).cell? ⟨w.heap.size, j, none⟩ := by unfold World.cell?; rw [h]
  rw [Nat.zero_add, hc, Lib.bytesWorld_cell w t s j hj2, ← hz]
  have h3 : j < s.data.toList.length := by simpa using hj2
  unfold lts
  rw [List.getElem?_map, List.getElem?_map, List.getElem?_eq_getElem h3, List.getD_eq_getElem?_getD, List.getElem?_eq_getElem h3]
  rfl
theorem bytes_below (w : World) (t : TypeId) (s : ByteArray) (B : Nat) (hB : B ≤ w.heap.size) : Below B w (Lib.bytesWorld w t s) :=
  ⟨rfl, rfl, rfl, by rw [Lib.bytesWorld_size]; omega, fun k hk => Lib.bytesWorld_at_old w t s k (by omega)⟩

set_option maxRecDepth 100000 in
set_option maxHeartbeats 4000000 in
theorem implParse_some (s : ByteArray) (w : World) (h61 : ¬ lts s = [61]) (h1 : 1 ≤ (lts s).length) (h24 : (lts s).length ≤ 24) (hT : LtT w) :
    Calls Tryd.prog 10 #[.string s] w fun e w' => ∃ A c, e = .returned (.tuple #[.slice A (psR (lts s)).length c, .bool (psB (lts s))]) ∧ OwI w' w.heap.size (.slice A (psR (lts s)).length c) (psR (lts s)) ∧ Below w.heap.size w w' := by
  obtain ⟨zs, hz⟩ : ∃ zs, lts s = zs := ⟨_, rfl⟩
  have hsz : zs.length = s.size := by rw [← hz, lts_len]
  have heq := lts_eq s
  have hnil := lts_nil s
  rw [hz] at heq hnil h61 h1 h24 ⊢
  rw [decide_eq_false h61] at heq
  rw [decide_eq_false (by omega)] at hnil
  have HT := Lib.hid hT
  have GL := Lib.hid (show inB (s.size : Int) 0 24 = true by unfold inB; simp; omega)
  clear hT
  have HZ := Lib.hid hz
  refine (callsIn_wide (n := 3)).1 ?_
  refine callsIn_of_wp_marks Tryd.func10 rfl trivial ?_ rfl
  simp only [Tryd.ntmps10, List.size_toArray, List.length_cons, List.length_nil, Nat.reduceAdd, Nat.reduceSub, Array.replicate_succ, Array.replicate_zero, List.push_toArray, List.append_toArray, List.nil_append, List.cons_append]
  gi_wp2_with fail
  refine ⟨trivial, ?_⟩
  gi_at_call 17
  refine (callsIn_wide.2 (isLength_any _ _)).mono ?_
  rw [GL.out]
  rintro e w' ⟨rfl, hww⟩
  subst w'
  have hcv := Lib.run_convert_string_bytes (P := Tryd.prog) (((w.alloc (.cells #[.slice none 0 0] 22)).alloc (.cells #[.bool false] 4)).alloc (.cells #[.slice none 0 0] 22)) 9 33 5 s (u := .string) Tryd.underlying9 Tryd.underlying33 Tryd.underlying5
  gi_wp2_with fail
  refine ⟨trivial, ?_⟩
  gi_at_call 18
  clear hcv
  generalize grownCap _ _ _ _ = gc
  obtain ⟨w1, hw1⟩ : ∃ w1, ((w.alloc (.cells #[.slice none 0 0] 22)).alloc (.cells #[.bool false] 4)).alloc (.cells #[.slice none 0 0] 22) = w1 := ⟨_, rfl⟩
  rw [hw1]
  have s1 : w1.heap.size = w.heap.size + 3 := by subst hw1; simp
  have xb1 : Below w.heap.size w w1 := by subst hw1; exact (((Below.refl _ _).alloc (Nat.le_refl _) _).alloc (by simp) _).alloc (by simp; omega) _
  have a0 : Boxed w1 w.heap.size 22 (.slice none 0 0) := by subst hw1; exact ((Boxed.new w _ _).alloc _).alloc _
  have a1 : Boxed w1 (w.heap.size + 1) 4 (.bool false) := by
    subst hw1
    have := (Boxed.new (w.alloc (.cells #[.slice none 0 0] 22)) 4 (.bool false)).alloc (.cells #[.slice none 0 0] 22)
    rwa [World.size_alloc] at this
  have a2 : Boxed w1 (w.heap.size + 2) 22 (.slice none 0 0) := by
    subst hw1
    have := Boxed.new ((w.alloc (.cells #[.slice none 0 0] 22)).alloc (.cells #[.bool false] 4)) 22 (.slice none 0 0)
    rwa [World.size_alloc, World.size_alloc] at this
  clear hw1
  obtain ⟨w2, hw2⟩ : ∃ w2, Lib.bytesWorld w1 5 s = w2 := ⟨_, rfl⟩
  have s2 : w2.heap.size = w.heap.size + 4 := by subst hw2; rw [Lib.bytesWorld_size]; omega
  have b3 := bytes_below w1 5 s w1.heap.size (Nat.le_refl _)
  have c3 := Lib.bytesWorld_at_new w1 5 s
  have RW := Lib.hid (fun W' h => rowW w1 s 5 zs hz W' h s.size (Nat.le_refl _))
  rw [hw2] at b3 c3 RW
  rw [hw2]
  generalize Lib.bytesCells w1 5 s = CS at c3
  rw [s1] at c3 RW b3
  clear hw2
  have c0 : Boxed w2 w.heap.size 22 (.slice none 0 0) := (b3.block _ (by omega)).trans a0
  have c1 : Boxed w2 (w.heap.size + 1) 4 (.bool false) := (b3.block _ (by omega)).trans a1
  have c2 : Boxed w2 (w.heap.size + 2) 22 (.slice none 0 0) := (b3.block _ (by omega)).trans a2
  have xb2 : Below w.heap.size w w2 := xb1.trans (b3.mono (by omega))
  clear a0 a1 a2 b3 xb1 s1
  refine (backwardU_in Fence.wide _ trivial rfl _ _ _ _).mono ?_
  rintro e w' ⟨rfl, hww⟩
  subst hww
  gi_wp2_with fail
  simp only [show w.heap.size + 1 + 1 = w.heap.size + 2 from rfl, show w.heap.size + 2 + 1 = w.heap.size + 3 from rfl, ← hsz]
  obtain ⟨w3, hw3⟩ : ∃ w3, w2.alloc (.cells #[.slice (some ⟨w.heap.size + 3, 0, none⟩) zs.length gc] 33) = w3 := ⟨_, rfl⟩
  rw [hw3]
  have s3 : w3.heap.size = w.heap.size + 5 := by subst hw3; rw [World.size_alloc]; omega
  have d0 : Boxed w3 w.heap.size 22 (.slice none 0 0) := by subst hw3; exact c0.alloc _
  have d1 : Boxed w3 (w.heap.size + 1) 4 (.bool false) := by subst hw3; exact c1.alloc _
  have d2 : Boxed w3 (w.heap.size + 2) 22 (.slice none 0 0) := by subst hw3; exact c2.alloc _
  have d3 : w3.heap[w.heap.size + 3]? = some (.cells CS 5 (CS.size, CS.size + 1)) := by subst hw3; exact blk_kept9 c3 (World.grownBy_alloc w2 _ none) (by simp)
  have d4 : Boxed w3 (w.heap.size + 4) 33 (.slice (some ⟨w.heap.size + 3, 0, none⟩) zs.length gc) := by
    subst hw3
    have := Boxed.new w2 33 (.slice (some ⟨w.heap.size + 3, 0, none⟩) zs.length gc)
    rwa [s2] at this
  have xb3 : Below w.heap.size w w3 := by subst hw3; exact xb2.alloc (by omega) _
  have HR : ∀ W', W'.heap[w.heap.size + 3]? = w3.heap[w.heap.size + 3]? → Rd W' (w.heap.size + 3 + 1) 1 (some ⟨w.heap.size + 3, 0, none⟩) zs.length (zs.map (Value.int .u8)) := fun W' h => RW.out W' (by rw [h, d3, c3])
  obtain ⟨i0', hi, hz0, hz1, hz2⟩ := info_parts info_int
  have HI := Lib.hid hi
  have HI0 := Lib.hid hz0
  have HI1 := Lib.hid hz1
  have HI2 := Lib.hid hz2
  have H61 := Lib.hid h61
  have HL1 := Lib.hid h1
  have HL2 := Lib.hid h24
  clear hw3 c0 c1 c2 c3 xb2 s2 hi hz0 hz1 hz2 hz hsz RW h61 heq hnil
  refine wpIn_rangeFunc_ownG (w0 := w3) rfl (by omega) (gf := 24) (lb := #[.pointer (some ⟨w.heap.size + 4, 0, none⟩)]) rfl trivial (enters_of Tryd.func24 (by kernel_rfl) rfl)
    (backU_stops Fence.wide _ trivial rfl (by omega) (w.heap.size + 3) (w.heap.size + 4) w.heap.size (some ⟨w.heap.size + 3, 0, none⟩) gc zs (by omega) w3 (by omega) d4 (by omega) HR) kp2_t (kp2_b (by omega) (by omega) (by omega)) (Below.refl _ _) (fun _ => rfl)
    (fun pre W => (∃ v, Boxed W (w.heap.size + 2) 22 v ∧ W.ownsRow w.heap.size 3 1 v (gD zs pre).length ((gD zs pre).map I) ∧ (∀ j ∈ pre, okL (zs.getD j 0) = true)) ∧
      ((Boxed W w.heap.size 22 (.slice none 0 0) ∧ Boxed W (w.heap.size + 1) 4 (.bool false) ∧ W.heap[w.heap.size + 3]? = some (.cells CS 5 (CS.size, CS.size + 1)) ∧ Boxed W (w.heap.size + 4) 33 (.slice (some ⟨w.heap.size + 3, 0, none⟩) zs.length gc)) ∧ Below w.heap.size w W))
    (fun c pre W => (c = .ret ∧ (∃ j, j ∈ pre ∧ okL (zs.getD j 0) = false) ∧ Boxed W w.heap.size 22 (.slice none 0 0) ∧ Boxed W (w.heap.size + 1) 4 (.bool false)) ∧ Below w.heap.size w W)
    (OwnFrom.and (Own.from (holdsRow_own w.heap.size (w.heap.size + 2) 22 3 1 (fun pre => (gD zs pre).length) (fun pre => (gD zs pre).map I) (fun pre _ => ∀ j ∈ pre, okL (zs.getD j 0) = true)) _)
      (OwnFrom.and (Own.from (fun s A B row hs hg hr => ⟨blk_ownF hs.1 hg hr, blk_ownF hs.2.1 hg hr, blk_ownF hs.2.2.1 hg hr, blk_ownF hs.2.2.2 hg hr⟩) _) (ownFrom_below (Nat.le_refl _) (by omega))))
    (fun c => OwnFrom.and (Own.from (fun s A B row hs hg hr => ⟨hs.1, hs.2.1, blk_ownF hs.2.2.1 hg hr, blk_ownF hs.2.2.2 hg hr⟩) _) (ownFrom_below (Nat.le_refl _) (by omega)))
    ⟨⟨_, d2, World.ownsRow_nil _ _ _ _, fun j hj => by cases hj⟩, ⟨d0, d1, d3, d4⟩, xb3⟩
    (fun x => { tmps := #[.string s, undef, .pointer (some ⟨w.heap.size, 0, none⟩), .pointer (some ⟨w.heap.size + 1, 0, none⟩), .pointer (some ⟨w.heap.size + 2, 0, none⟩), undef, .int .u8 (zs.getD x 0), undef, undef, .string s, .bool false, .string s, .bool false, .bool false, .string s, .int .i64 (zs.length : Int), .bool true, .bool false, .bool false, .string s, .slice (some ⟨w.heap.size + 3, 0, none⟩) zs.length gc, .func (.func 24) #[] #[.pointer (some ⟨w.heap.size + 4, 0, none⟩)], .int .i64 (x : Int), .int .u8 (zs.getD x 0), undef, undef, undef, undef, undef, undef, undef, undef, undef, undef, undef, undef], defers := [] }) ?assign ?body ?done ?stop
  case assign =>
    intro l x W K hK
    gi_wp2
    exact hK
  case body =>
    rintro lr pre j W ⟨⟨v, hbx, hrow, hok⟩, ⟨q0, q1, q3, q4⟩, hbel⟩ hlen
    have EF := Lib.hid (gD_snoc zs pre j)
    have BEL := Lib.hid hbel
    have hs := hbel.size
    have hzl := gD_len zs pre
    have TW := Lib.hid (HT.out.on hbel)
    obtain ⟨d, hde⟩ : ∃ d, zs.getD j 0 = d := ⟨_, rfl⟩
    have HDE := Lib.hid hde
    rw [hde] at EF ⊢
    obtain ⟨z, hz⟩ : ∃ z, gD zs pre = z := ⟨_, rfl⟩
    rw [hz] at hrow EF hzl
    obtain ⟨L, hL⟩ : ∃ L, z.length = L := ⟨_, rfl⟩
    have hL24 : L ≤ 24 := by omega
    rw [hL] at hrow
    have HL := Lib.hid hL
    obtain ⟨A1, c1, rfl⟩ := row_form9 hrow
    have Q0 := Lib.hid q0
    have Q1 := Lib.hid q1
    have Q3 := Lib.hid q3
    have Q4 := Lib.hid q4
    have BX := Lib.hid hbx
    have ROW := Lib.hid hrow
    have OK := Lib.hid hok
    have DG := Lib.hid (digitOf_any d W TW.out)
    have xb := hbx.cell
    have fb := hbx.frozen
    have x0 := q0.cell
    have f0 := q0.frozen
    have x1 := q1.cell
    have f1 := q1.frozen
    clear hbx hrow hbel hz hL hzl hde q0 q1 q3 q4 hok
    obtain ⟨g, hg⟩ : ∃ g, okL d = g := ⟨_, rfl⟩
    have HG := Lib.hid hg
    rw [hg] at DG
    cases g with
    | false =>
      clear hg
      gi_wp2_with (refine ⟨trivial, ?_⟩; gi_at_call 19; refine (CallsIn.inRound lr (callsIn_wide.2 DG.out)).mono ?_; rintro e w' ⟨rfl, hww⟩; subst w')
      exact ⟨((KeepsOthers.setCell _ _ _).trans (KeepsOthers.setCell _ _ _)).from _, ⟨rfl, ⟨j, by simp, by rw [HDE.out]; exact HG.out⟩, (Boxed.set _ Q0.out).other (by omega) _, ((Q1.out).other (by omega) _).set _⟩, (BEL.out.setCell (by simp) _).setCell (by show w.heap.size ≤ w.heap.size + 1; omega) _⟩
    | true =>
      obtain ⟨dd, hdd⟩ : ∃ dd, dgL d = dd := ⟨_, rfl⟩
      have EN := Lib.hid (show gD zs (pre ++ [j]) = z ++ [dd] by rw [EF.out, hdd])
      rw [hdd] at DG
      have DG := Lib.hid (show Calls Tryd.prog 19 #[.int .u8 d] W fun e w' => e = .returned (.tuple #[.int .i64 dd, .bool true]) ∧ W = w' from DG.out)
      clear hg hdd
      gi_wp2_with (first
        | (gi_at_builtin; refine wpListIn_append_own _ rfl _ _ 22 rfl w.heap.size 3 i0' (.int .i64 0) 1 8 Tryd.underlying22 HI.out HI0.out HI1.out HI2.out rfl (by decide) _ _ _ rfl (ROW.out.alloc _) ⟨W.heap.size, 0, none⟩ 1 1 [.int .i64 dd] rfl rfl (cell_one_at9 _ _ _) (by simp [Value.oneCell']) (by unfold maxLen; omega) (by omega) (by simp; omega) ?_; intro v' w1 hown' hgrow _; obtain ⟨g', cap', rfl⟩ := ownsRow_succ hown'; obtain ⟨hv1, hv2, hr2, hk2, hb2⟩ := BX.out.appended (by decide) ROW.out hs (by omega) hown' hgrow; have hc1 := hv1.cell; have hf1 := hv1.frozen)
        | (refine ⟨trivial, ?_⟩; gi_at_call 19; refine (CallsIn.inRound lr (callsIn_wide.2 DG.out)).mono ?_; rintro e w' ⟨rfl, hww⟩; subst w'))
      have r0 := ((Boxed.alloc Q0.out _).kept hgrow (Q0.out.not_row (by decide) ROW.out)).other (B' := w.heap.size + 2) (by omega) (.slice (some ⟨g', 0, none⟩) (L + 1) cap')
      have r1 := ((Boxed.alloc Q1.out _).kept hgrow (Q1.out.not_row (by decide) ROW.out)).other (B' := w.heap.size + 2) (by omega) (.slice (some ⟨g', 0, none⟩) (L + 1) cap')
      have r4 := ((Boxed.alloc Q4.out _).kept hgrow (Q4.out.not_row (by decide) ROW.out)).other (B' := w.heap.size + 2) (by omega) (.slice (some ⟨g', 0, none⟩) (L + 1) cap')
      have r3 := blk_kept9 (blk_kept9 (blk_kept9 Q3.out (World.grownBy_alloc W (.cells #[.int .i64 dd] 3) none) (by simp)) hgrow (blk_not_row Q3.out (by decide) ROW.out)) (grownBy_setCell' w1 (w.heap.size + 2) (.slice (some ⟨g', 0, none⟩) (L + 1) cap')) (fun e => by have := Option.some.inj e; omega)
      have hok2 : ∀ x ∈ pre ++ [j], okL (zs.getD x 0) = true := fun x hx => by
        rcases List.mem_append.1 hx with h | h
        · exact OK.out x h
        · rw [List.mem_singleton.1 h, HDE.out]; exact HG.out
      have RR : (w1.setCell ⟨w.heap.size + 2, 0, none⟩ (.slice (some ⟨g', 0, none⟩) (L + 1) cap')).ownsRow w.heap.size 3 1 (.slice (some ⟨g', 0, none⟩) (L + 1) cap') (gD zs (pre ++ [j])).length ((gD zs (pre ++ [j])).map I) := by
        rw [EN.out, show (z ++ [dd]).length = L + 1 by rw [List.length_append, HL.out]; rfl, List.map_append]
        exact hr2
      exact ⟨hk2.from _, ⟨hb2, fun _ => Eq.trans r3 (Eq.symm Q3.out), fun _ => Eq.trans r4 (Eq.symm Q4.out)⟩, ⟨_, hv2, RR, hok2⟩, ⟨r0, r1, r3, r4⟩, BEL.out.trans hb2⟩
  case done =>
    rintro D' ys W hD' rfl ⟨⟨v, hbx, hrow, hok⟩, ⟨q0, q1, q3, q4⟩, hbel⟩ hK
    have ha := all_of (zs := zs) (fun i hi => hok _ (bwI_mem hi))
    have EB := Lib.hid (show psB zs = true by unfold psB; rw [ha, decide_eq_true HL1.out, decide_eq_true HL2.out, decide_eq_false H61.out]; rfl)
    have ER := Lib.hid (show psR zs = pl zs zs.length by unfold psR; rw [ha, decide_eq_true HL1.out, decide_eq_true HL2.out]; rfl)
    have PL := Lib.hid (pl_len zs zs.length)
    rw [gD_all, pl_len] at hrow
    obtain ⟨A', c', rfl⟩ := row_form9 hrow
    have xb := hbx.cell
    have x0 := q0.cell
    have f0 := q0.frozen
    have x1 := q1.cell
    have f1 := q1.frozen
    have k1 : Boxed ((W.setCell ⟨w.heap.size, 0, none⟩ (.slice A' zs.length c')).setCell ⟨w.heap.size + 1, 0, none⟩ (.bool true)) w.heap.size 22 (.slice A' zs.length c') := (Boxed.set _ q0).other (by omega) _
    have k2 : Boxed ((W.setCell ⟨w.heap.size, 0, none⟩ (.slice A' zs.length c')).setCell ⟨w.heap.size + 1, 0, none⟩ (.bool true)) (w.heap.size + 1) 4 (.bool true) := Boxed.set _ (q1.other (by omega) _)
    have kR := (hrow.kept (grownBy_setCell' W w.heap.size (.slice A' zs.length c')) (.inr (q0.not_row (by decide) hrow).symm))
    have kR := kR.kept (grownBy_setCell' (W.setCell ⟨w.heap.size, 0, none⟩ (.slice A' zs.length c')) (w.heap.size + 1) (.bool true)) (.inr ((q1.other (B' := w.heap.size) (by omega) (.slice A' zs.length c')).not_row (by decide) kR).symm)
    have kD : ((W.setCell ⟨w.heap.size, 0, none⟩ (.slice A' zs.length c')).setCell ⟨w.heap.size + 1, 0, none⟩ (.bool true)).heap[D']? = some (.deferred (some [])) := by
      rw [set_other (by omega), set_other (by omega)]
      exact hK
    have BEL := Lib.hid ((hbel.setCell (p := ⟨w.heap.size, 0, none⟩) (by simp) (.slice A' zs.length c')).setCell (p := ⟨w.heap.size + 1, 0, none⟩) (by show w.heap.size ≤ w.heap.size + 1; omega) (.bool true))
    have K1 := Lib.hid k1
    have K2 := Lib.hid k2
    have KR := Lib.hid kR
    have KD := Lib.hid kD
    clear hbx hrow hok q0 q1 q3 q4 hbel ha k1 k2 kR kD
    gi_wp2
    refine ⟨by simp, .inl ⟨_, _, rfl, run_takeDeferred KD.out, ?_⟩⟩
    have y1 := Go.cell_kept K1.out.cell (grownBy_putObj' _ D' (.deferred none)) (fun r e => by cases e; exact ⟨_, KD.out, rfl⟩)
    have y2 := Go.cell_kept K2.out.cell (grownBy_putObj' _ D' (.deferred none)) (fun r e => by cases e; exact ⟨_, KD.out, rfl⟩)
    exact ⟨.tuple #[.slice A' zs.length c', .bool true], by simp [results, Tryd.results10, go_sem, y1, y2], A', c', by rw [ER.out, EB.out, PL.out], by rw [ER.out, PL.out]; unfold OwI; rw [PL.out]; exact ownsRow_putObj KR.out _ KD.out rfl, BEL.out.trans (belowK_b (w := w) (Nat.le_refl _) _ D' _ _ (by omega) KD.out rfl rfl)⟩
  case stop =>
    rintro D' c' pre W hD' ⟨k, hk, rfl⟩ ⟨⟨rfl, ⟨j, hj, hbad⟩, q0, q1⟩, hbel⟩ hK
    have hn := not_all (bwI_lt hk hj) hbad
    have EB := Lib.hid (show psB zs = false by unfold psB; rw [hn, decide_eq_false H61.out]; rfl)
    have ER := Lib.hid (show psR zs = [] by unfold psR; rw [hn]; rfl)
    gi_wp2_with fail
    refine ⟨by simp, .inl ⟨_, _, rfl, run_takeDeferred hK, ?_⟩⟩
    have y1 := Go.cell_kept q0.cell (grownBy_putObj' W D' (.deferred none)) (fun r e => by cases e; exact ⟨_, hK, rfl⟩)
    have y2 := Go.cell_kept q1.cell (grownBy_putObj' W D' (.deferred none)) (fun r e => by cases e; exact ⟨_, hK, rfl⟩)
    exact ⟨.tuple #[.slice none 0 0, .bool false], by simp [results, Tryd.results10, go_sem, y1, y2], none, 0, by rw [ER.out, EB.out]; rfl, by rw [ER.out]; exact OwI.nil _ _, hbel.trans (belowK_b (w := w) (Nat.le_refl _) W D' _ _ (by omega) hK rfl rfl)⟩

set_option maxRecDepth 100000 in
set_option maxHeartbeats 4000000 in
theorem implParse_any (s : ByteArray) (w : World) (hl : s.size ≤ 1048576) (hT : LtT w) :
    Calls Tryd.prog 10 #[.string s] w fun e w' => ∃ A c, e = .returned (.tuple #[.slice A (psR (lts s)).length c, .bool (psB (lts s))]) ∧ OwI w' w.heap.size (.slice A (psR (lts s)).length c) (psR (lts s)) ∧ Below w.heap.size w w' := by
  by_cases h61 : lts s = [61]
  · have EB := Lib.hid (show psB (lts s) = true by rw [h61]; rfl)
    have ER := Lib.hid (show psR (lts s) = [] by rw [h61]; rfl)
    have heq := lts_eq s
    rw [decide_eq_true h61] at heq
    clear h61 hT
    obtain ⟨x1, x2, xb⟩ := two_new w (.slice none 0 0) (.bool true) 22 4
    go_enter Tryd.func10, Tryd.ntmps10
    go_wp2
    exact bodyPost_ret (v := .tuple #[.slice none 0 0, .bool true]) (by simp [results, Tryd.results10, go_sem, x1, x2]) rfl ⟨none, 0, by rw [ER.out, EB.out]; rfl, by rw [ER.out]; exact OwI.nil _ _, xb⟩
  by_cases h0 : (lts s).length = 0
  · have EB := Lib.hid (show psB (lts s) = false by rw [List.length_eq_zero_iff.1 h0]; rfl)
    have ER := Lib.hid (show psR (lts s) = [] by rw [List.length_eq_zero_iff.1 h0]; rfl)
    have heq := lts_eq s
    have hnil := lts_nil s
    rw [decide_eq_false h61] at heq
    rw [decide_eq_true h0] at hnil
    clear h61 hT h0
    obtain ⟨x1, x2, xb⟩ := two_new w (.slice none 0 0) (.bool false) 22 4
    go_enter Tryd.func10, Tryd.ntmps10
    go_wp2
    exact bodyPost_ret (v := .tuple #[.slice none 0 0, .bool false]) (by simp [results, Tryd.results10, go_sem, x1, x2]) rfl ⟨none, 0, by rw [ER.out, EB.out]; rfl, by rw [ER.out]; exact OwI.nil _ _, xb⟩
  by_cases h24 : (lts s).length ≤ 24
  · exact implParse_some s w h61 (by omega) h24 hT
  · have hd : decide ((lts s).length ≤ 24) = false := decide_eq_false h24
    have EB := Lib.hid (show psB (lts s) = false by unfold psB; rw [hd, decide_eq_false h61, Bool.and_false]; rfl)
    have ER := Lib.hid (show psR (lts s) = [] by unfold psR; rw [hd, Bool.and_false]; rfl)
    have heq := lts_eq s
    have hnil := lts_nil s
    have hsz := lts_len s
    have GL := Lib.hid (show inB (s.size : Int) 0 24 = false by unfold inB; simp; omega)
    rw [decide_eq_false h61] at heq
    rw [decide_eq_false h0] at hnil
    clear h61 hT h0 hd h24 hsz
    obtain ⟨x1, x2, xb⟩ := two_new w (.slice none 0 0) (.bool false) 22 4
    go_enter Tryd.func10, Tryd.ntmps10
    go_wp2_with (go_at_call 17; refine (isLength_any _ _).mono ?_; rw [GL.out]; rintro e w' ⟨rfl, hww⟩; subst w')
    all_goals exact bodyPost_ret (v := .tuple #[.slice none 0 0, .bool false]) (by simp [results, Tryd.results10, go_sem, x1, x2]) rfl ⟨none, 0, by rw [ER.out, EB.out]; rfl, by rw [ER.out]; exact OwI.nil _ _, xb⟩
theorem psR_le (zs : List Int) : (psR zs).length ≤ 1000 := by
  unfold psR
  split
  · rename_i h
    simp only [Bool.and_eq_true, decide_eq_true_eq] at h
    rw [pl_len]
    omega
  · simp
theorem specParse_lt (B : Nat) (s : ByteArray) (w : World) (_hB : B ≤ w.heap.size) (hl : s.size ≤ 1048576) :
    Calls Tryd.prog 9 #[.string s] w fun e w' => ∃ A c, e = .returned (.tuple #[.slice A (psR (lts s)).length c, .bool (psB (lts s))]) ∧ OwI w' w.heap.size (.slice A (psR (lts s)).length c) (psR (lts s)) ∧ Below w.heap.size w w' := specParse_any s w hl
theorem implParse_lt (B : Nat) (s : ByteArray) (w : World) (_hB : B ≤ w.heap.size) (hl : s.size ≤ 1048576) (hT : LtT w) :
    Calls Tryd.prog 10 #[.string s] w fun e w' => ∃ A c, e = .returned (.tuple #[.slice A (psR (lts s)).length c, .bool (psB (lts s))]) ∧ OwI w' w.heap.size (.slice A (psR (lts s)).length c) (psR (lts s)) ∧ Below w.heap.size w w' := implParse_any s w hl hT
end Go.Proofs.YtbohakifjmdoiabDoor
