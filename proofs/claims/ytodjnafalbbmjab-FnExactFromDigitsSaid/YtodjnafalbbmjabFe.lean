/- Numbers read from digits, by the program. -/
import Derived.Test.YtodjnafalbbmjabFd
import Derived.RangeFuncNested
import Derived.RangeFuncBound
import Derived.RangeFuncCalls
import Derived.Shelf.RegionOpen
namespace Go.Proofs.Ytodjnafalbbmjab
open Go.RowKit Go.Shelf

attribute [local go_sem] Oper.semAt_some

theorem fb_new {w w1 : World} {b : Int} (h : ((w.alloc (.cells #[.int .i64 b] 3)).alloc (.cells #[.int .i64 0] 3)).alloc (.cells #[.bool false] 4) = w1) :
    w1.heap[w.heap.size]? = some (.cells #[.int .i64 b] 3 (0, 0)) ∧ w1.heap[w.heap.size + 1]? = some (.cells #[.int .i64 0] 3 (0, 0)) ∧ w1.heap[w.heap.size + 2]? = some (.cells #[.bool false] 4 (0, 0)) ∧ w1.heap.size = w.heap.size + 3 ∧ Below w.heap.size w w1 := by
  subst h
  refine ⟨?_, ?_, ?_, by simp, (((Below.refl _ _).alloc (Nat.le_refl _) _).alloc (by simp) _).alloc (by simp; omega) _⟩
  · rw [Below.heap_alloc _ _ _ (by simp; omega), Below.heap_alloc _ _ _ (by simp)]; exact heap_alloc_new w _
  · rw [Below.heap_alloc _ _ _ (by simp)]
    have := heap_alloc_new (w.alloc (.cells #[.int .i64 b] 3)) (.cells #[.int .i64 0] 3)
    simpa using this
  · have := heap_alloc_new ((w.alloc (.cells #[.int .i64 b] 3)).alloc (.cells #[.int .i64 0] 3)) (.cells #[.bool false] 4)
    simpa using this

theorem fx_set {W : World} {s : Nat} {b n : Int} (h : Fb W s b n) : Fx ((W.setCell ⟨s + 1, 0, none⟩ (.int .i64 0)).setCell ⟨s + 1 + 1, 0, none⟩ (.bool false)) s := by
  obtain ⟨h0, ⟨v1, h1⟩, ⟨v2, h2⟩, h3⟩ := h
  exact ⟨(set_other (by omega)).trans (one_set h1 rfl), one_set ((set_other (by omega)).trans h2) rfl⟩
theorem fb_set {W : World} {s : Nat} {b n r : Int} (h : Fb W s b n) : Fb (W.setCell ⟨s + 3, 0, none⟩ (.int .i64 r)) s b r := by
  obtain ⟨h0, ⟨v1, h1⟩, ⟨v2, h2⟩, h3⟩ := h
  exact ⟨(set_other (by omega)).trans h0, ⟨v1, (set_other (by omega)).trans h1⟩, ⟨v2, (set_other (by omega)).trans h2⟩, one_set h3 rfl⟩

theorem fb_end {W W4 : World} {s D : Nat} {b n : Int} {g : Bool} (h : Fb W s b n) (hD : s + 5 ≤ D) (hK : W.heap[D]? = some (.deferred (some [])))
    (e : ((W.setCell ⟨s + 1, 0, none⟩ (.int .i64 n)).setCell ⟨s + 1 + 1, 0, none⟩ (.bool g)).drew = W4) :
    W4.heap[s + 1]? = some (.cells #[.int .i64 n] 3 (0, 0)) ∧ W4.heap[s + 2]? = some (.cells #[.bool g] 4 (0, 0)) ∧ W4.heap[D]? = some (.deferred (some [])) := by
  obtain ⟨h0, ⟨v1, h1⟩, ⟨v2, h2⟩, h3⟩ := h
  subst e
  refine ⟨?_, ?_, ?_⟩
  · show ((W.setCell ⟨s + 1, 0, none⟩ (.int .i64 n)).setCell ⟨s + 1 + 1, 0, none⟩ (.bool g)).heap[s + 1]? = _
    rw [set_other (by omega)]
    exact one_set h1 rfl
  · show ((W.setCell ⟨s + 1, 0, none⟩ (.int .i64 n)).setCell ⟨s + 1 + 1, 0, none⟩ (.bool g)).heap[s + 2]? = _
    exact one_set ((set_other (g := s + 1) (h := s + 2) (by omega)).trans h2) rfl
  · show ((W.setCell ⟨s + 1, 0, none⟩ (.int .i64 n)).setCell ⟨s + 1 + 1, 0, none⟩ (.bool g)).heap[D]? = _
    rw [set_other (by omega), set_other (by omega)]
    exact hK

set_option maxRecDepth 100000 in
set_option maxHeartbeats 2000000 in
theorem implFrom_any (B : Nat) (A : Option Addr) (c : Nat) (l : List Int) (b : Int) (w : World) (hB : B ≤ w.heap.size) (hl : l.length ≤ 1048576) (_hcap : l.length ≤ c) (hr : Rd w B 1 A l.length (l.map I)) :
    Calls Try.prog 10 #[.slice A l.length c, .int .i64 b] w fun e w' => e = .returned (.tuple #[.int .i64 (fdV l b), .bool (fdB l b)]) ∧ Below w.heap.size w w' := by
  have H := Lib.hid hr
  clear hr
  obtain ⟨gb, hgb⟩ : ∃ g, inB b 2 64 = g := ⟨_, rfl⟩
  have GB := Lib.hid hgb
  cases gb with
  | false =>
    obtain ⟨E1, E2⟩ := fdV_none (l := l) (b := b) (by unfold fdQ; rw [hgb]; rfl)
    have e1 := Lib.hid E1
    have e2 := Lib.hid E2
    clear E1 E2 hgb
    go_enter Try.func10, Try.ntmps10
    go_wp2_with fail
    go_at_call 31
    generalize hw1 : World.alloc (World.alloc (World.alloc w _) _) _ = w1
    obtain ⟨q0, q1, q2, xs, xb⟩ := fb_new hw1
    clear hw1
    obtain ⟨x0, f0⟩ := one_cell q0
    obtain ⟨x1, f1⟩ := one_cell q1
    obtain ⟨x2, f2⟩ := one_cell q2
    refine (isBase_any b _).mono ?_
    rw [GB.out]
    rintro e w' ⟨rfl, hww⟩
    subst w'
    go_wp2
    refine bodyPost_ret (v := .tuple #[.int .i64 0, .bool false]) (by simp [results, Try.results10, go_sem, x1, x2]) rfl ⟨by rw [e1.out, e2.out], ?_⟩
    exact (xb.setCell (by simp) _).setCell (by show w.heap.size ≤ w.heap.size + 1 + 1; omega) _
  | true =>
    have EQ := Lib.hid (fdQ_of (l := l) hgb)
    have hb2 : 2 ≤ b ∧ b ≤ 64 := by simpa [inB] using hgb
    obtain ⟨hb2, hb64⟩ := hb2
    clear hgb
    refine (callsIn_wide (n := 3)).1 ?_
    refine callsIn_of_wp_marks Try.func10 rfl trivial ?_ rfl
    simp only [Try.ntmps10, List.size_toArray, List.length_cons, List.length_nil, Nat.reduceAdd, Nat.reduceSub, Array.replicate_succ, Array.replicate_zero, List.push_toArray, List.append_toArray, List.nil_append, List.cons_append]
    gi_wp2_with fail
    refine ⟨trivial, ?_⟩
    gi_at_call 31
    generalize hw1 : World.alloc (World.alloc (World.alloc w _) _) _ = w1
    obtain ⟨q0, q1, q2, xs, xb⟩ := fb_new hw1
    clear hw1
    obtain ⟨x0, f0⟩ := one_cell q0
    obtain ⟨x1, f1⟩ := one_cell q1
    obtain ⟨x2, f2⟩ := one_cell q2
    refine (callsIn_wide.2 (isBase_any b _)).mono ?_
    rw [GB.out]
    rintro e w' ⟨rfl, hww⟩
    subst w'
    gi_wp2_with fail
    refine ⟨trivial, ?_⟩
    gi_at_call 32
    refine (backward_in Fence.wide _ trivial rfl _ _ _ _).mono ?_
    rintro e w' ⟨rfl, hww⟩
    subst hww
    gi_wp2_with fail
    obtain ⟨w3, hw3⟩ : ∃ w3, (w1.alloc (.cells #[.int .i64 0] 3)).alloc (.cells #[.slice A l.length c] 22) = w3 := ⟨_, rfl⟩
    rw [hw3]
    have hb3 : Below w1.heap.size w1 w3 := by subst hw3; exact ((Below.refl _ _).alloc (Nat.le_refl _) _).alloc (by simp) _
    have z3 : w3.heap[w.heap.size + 3]? = some (.cells #[.int .i64 0] 3 (0, 0)) := by
      subst hw3
      rw [Below.heap_alloc _ _ _ (by simp; omega), ← xs]
      exact heap_alloc_new w1 _
    have z4 : w3.heap[w.heap.size + 4]? = some (.cells #[.slice A l.length c] 22 (0, 0)) := by
      subst hw3
      have := heap_alloc_new (w1.alloc (.cells #[.int .i64 0] 3)) (.cells #[.slice A l.length c] 22)
      rw [World.size_alloc, xs] at this
      exact this
    have s3 : w3.heap.size = w.heap.size + 5 := by subst hw3; simp; omega
    have HFB := Lib.hid (show Fb w3 w.heap.size b 0 from ⟨(hb3.block _ (by omega)).trans q0, ⟨_, (hb3.block _ (by omega)).trans q1⟩, ⟨_, (hb3.block _ (by omega)).trans q2⟩, z3⟩)
    have HB3 := Lib.hid (xb.trans (hb3.mono (by omega)))
    have HR := Lib.hid (show ∀ W', Below w.heap.size w3 W' → Rd W' w.heap.size 1 A l.length (l.map I) from fun W' h => (H.out.below' (HB3.out.trans h) hB).more hB)
    clear hw3 hb3 z3 q0 q1 q2 xs xb x0 x1 x2 f0 f1 f2
    refine wpIn_rangeFunc_ownG (w0 := w3) rfl (by omega) (gf := 67) (lb := #[.pointer (some ⟨w.heap.size + 3 + 1, 0, none⟩)]) rfl trivial (enters_of Try.func67 (by kernel_rfl) rfl)
      (backward_stops Fence.wide _ trivial rfl (by omega) (w.heap.size + 4) w.heap.size A c l hl w3 (by omega) z4 HR.out) kpB_t (kpB_b (by omega) (by omega)) (Below.refl _ _) (fun _ => rfl)
      (fun pre W => (∃ n, fdF b pre = some n ∧ 0 ≤ n ∧ n ≤ 1000000 ∧ Fb W w.heap.size b n) ∧ Below w.heap.size w W)
      (fun c pre W => (c = .ret ∧ fdF b pre = none ∧ Fx W w.heap.size) ∧ Below w.heap.size w W)
      (OwnFrom.and (Own.from (fun s A B row hs hg hr => by obtain ⟨n, e1, e2, e3, e4⟩ := hs; exact ⟨n, e1, e2, e3, e4.own hg hr⟩) _) (ownFrom_below (Nat.le_refl _) (by omega)))
      (fun c => OwnFrom.and (Own.from (fun s A B row hs hg hr => ⟨hs.1, hs.2.1, hs.2.2.own hg hr⟩) _) (ownFrom_below (Nat.le_refl _) (by omega)))
      ⟨⟨0, rfl, by omega, by omega, HFB.out⟩, HB3.out⟩
      (fun x => { tmps := #[.slice A l.length c, .int .i64 b, undef, .pointer (some ⟨w.heap.size, 0, none⟩), .pointer (some ⟨w.heap.size + 1, 0, none⟩), .pointer (some ⟨w.heap.size + 1 + 1, 0, none⟩), .pointer (some ⟨w.heap.size + 3, 0, none⟩), undef, .int .i64 x.2, .int .i64 b, .bool true, .bool false, .slice A l.length c, .func (.func 67) #[] #[.pointer (some ⟨w.heap.size + 3 + 1, 0, none⟩)], .int .i64 (x.1 : Int), .int .i64 x.2, undef, undef, undef, undef, undef, undef, undef, undef, undef, undef, undef, undef, undef, undef, undef, undef, undef, undef], defers := [] }) ?assign ?body ?done ?stop
    case assign =>
      intro l x W K hK
      gi_wp2
      exact hK
    case body =>
      rintro lr pre ⟨i, d⟩ W ⟨⟨n, hn, n0, n1, hfb⟩, hbel⟩ _
      have EF := Lib.hid (show fdF b (pre ++ [(i, d)]) = fdS b (some n) (i, d) by rw [fdF_snoc, hn])
      have BEL := Lib.hid hbel
      have FB := Lib.hid hfb
      obtain ⟨h0, ⟨v4, h4⟩, ⟨v5, h5⟩, h6⟩ := hfb
      obtain ⟨x0, f0⟩ := one_cell h0
      obtain ⟨x1, f1⟩ := one_cell h4
      obtain ⟨x2, f2⟩ := one_cell h5
      obtain ⟨x3, f3⟩ := one_cell h6
      clear hn hbel h0 h4 h5 h6
      dsimp only
      by_cases hd0 : d < 0
      · have EN := Lib.hid (show fdF b (pre ++ [(i, d)]) = none by rw [EF.out]; unfold fdS; simp [hd0])
        gi_wp2
        exact ⟨((KeepsOthers.setCell _ _ _).trans (KeepsOthers.setCell _ _ _)).from _, ⟨rfl, EN.out, fx_set FB.out⟩, (BEL.out.setCell (by simp) _).setCell (by show w.heap.size ≤ w.heap.size + 1 + 1; omega) _⟩
      by_cases hdb : b ≤ d
      · have EN := Lib.hid (show fdF b (pre ++ [(i, d)]) = none by rw [EF.out]; unfold fdS; simp [hdb])
        gi_wp2
        exact ⟨((KeepsOthers.setCell _ _ _).trans (KeepsOthers.setCell _ _ _)).from _, ⟨rfl, EN.out, fx_set FB.out⟩, (BEL.out.setCell (by simp) _).setCell (by show w.heap.size ≤ w.heap.size + 1 + 1; omega) _⟩
      have hm0 : 0 ≤ n * b := Int.mul_nonneg n0 (by omega)
      have hm1 : n * b ≤ 1000000 * 64 := Int.mul_le_mul n1 hb64 (by omega) (by omega)
      obtain ⟨m, hm⟩ : ∃ m, n * b = m := ⟨_, rfl⟩
      rw [hm] at hm0 hm1
      obtain ⟨r, hr⟩ : ∃ r, m + d = r := ⟨_, rfl⟩
      have EF2 := Lib.hid (show fdF b (pre ++ [(i, d)]) = if isNum r then some r else none by
        rw [EF.out]
        unfold fdS
        simp only [Option.bind_some]
        rw [if_neg (by omega), hm, hr])
      have ewm : IntKind.i64.wrap m = m := IntWalk.i64_in _ (by omega)
      have ewr : IntKind.i64.wrap r = r := IntWalk.i64_in _ (by omega)
      have hr0 : 0 ≤ r ∧ r ≤ 64000064 := by omega
      obtain ⟨gr, hgr⟩ : ∃ g, isNum r = g := ⟨_, rfl⟩
      have GR := Lib.hid hgr
      have i0 : ¬ b ≤ d := hdb
      cases gr with
      | false =>
        have EN := Lib.hid (show fdF b (pre ++ [(i, d)]) = none by rw [EF2.out, GR.out]; rfl)
        clear hgr hr0
        gi_wp2_with (refine ⟨trivial, ?_⟩; gi_at_call 33; refine (CallsIn.inRound lr (callsIn_wide.2 (isExponent_any _ _))).mono ?_; rw [GR.out]; rintro e w' ⟨rfl, hww⟩; subst w')
        exact ⟨(((KeepsOthers.setCell _ _ _).trans (KeepsOthers.setCell _ _ _)).trans (KeepsOthers.setCell _ _ _)).from _, ⟨rfl, EN.out, fx_set (fb_set FB.out)⟩, ((BEL.out.setCell (by simp) _).setCell (by simp) _).setCell (by show w.heap.size ≤ w.heap.size + 1 + 1; omega) _⟩
      | true =>
        have EN := Lib.hid (show fdF b (pre ++ [(i, d)]) = some r by rw [EF2.out, GR.out]; rfl)
        have HN := Lib.hid (isNum_rng GR.out)
        clear hgr hr0
        gi_wp2_with (refine ⟨trivial, ?_⟩; gi_at_call 33; refine (CallsIn.inRound lr (callsIn_wide.2 (isExponent_any _ _))).mono ?_; rw [GR.out]; rintro e w' ⟨rfl, hww⟩; subst w')
        exact ⟨(KeepsOthers.setCell _ _ _).from _, ⟨(Below.refl w.heap.size W).setCell (by simp) _, fun _ => set_other (by omega)⟩, ⟨r, EN.out, by have := HN.out; omega, HN.out.2, fb_set FB.out⟩, BEL.out.setCell (by simp) _⟩
    case done =>
      rintro D ys W hD rfl ⟨⟨n, hn, n0, n1, hfb⟩, hbel⟩ hK
      have EV := Lib.hid (show fdV l b = n by unfold fdV; rw [EQ.out, hn]; rfl)
      have EB := Lib.hid (show fdB l b = decide (0 < n) by unfold fdB; rw [EV.out])
      have BEL := Lib.hid hbel
      have FB := Lib.hid hfb
      obtain ⟨h0, ⟨v4, h4⟩, ⟨v5, h5⟩, h6⟩ := hfb
      obtain ⟨x0, f0⟩ := one_cell h0
      obtain ⟨x1, f1⟩ := one_cell h4
      obtain ⟨x2, f2⟩ := one_cell h5
      obtain ⟨x3, f3⟩ := one_cell h6
      have hmx : Try.prog.follows .mixedOrders = true := by kernel_rfl
      have hmx2 : Try.prog.follows .inlinedCapture = true := by kernel_rfl
      clear hn hbel h0 h4 h5 h6
      obtain ⟨gn, hgn⟩ : ∃ g, decide (0 < n) = g := ⟨_, rfl⟩
      gi_wp2_with fail
      gi_region_o
      all_goals gi_wp2
      obtain ⟨W4, hW4⟩ : ∃ W4, ((W.setCell ⟨w.heap.size + 1, 0, none⟩ (.int .i64 n)).setCell ⟨w.heap.size + 1 + 1, 0, none⟩ (.bool gn)).drew = W4 := ⟨_, rfl⟩
      rw [hW4]
      obtain ⟨k1, k2, kD⟩ := fb_end FB.out (by omega) hK hW4
      have B4 : Below w.heap.size w W4 := by subst hW4; exact ((BEL.out.setCell (by simp) _).setCell (by show w.heap.size ≤ w.heap.size + 1 + 1; omega) _).drew
      refine ⟨by simp, .inl ⟨_, _, rfl, run_takeDeferred kD, ?_⟩⟩
      have y1 := Go.cell_kept (one_cell k1).1 (grownBy_putObj' W4 D (.deferred none)) (fun r e => by cases e; exact ⟨_, kD, rfl⟩)
      have y2 := Go.cell_kept (one_cell k2).1 (grownBy_putObj' W4 D (.deferred none)) (fun r e => by cases e; exact ⟨_, kD, rfl⟩)
      exact ⟨.tuple #[.int .i64 n, .bool gn], by simp [results, Try.results10, go_sem, y1, y2], by rw [EV.out, EB.out, hgn], B4.trans (belowK_b (w := w) (Nat.le_refl _) W4 D _ _ (by omega) kD rfl rfl)⟩
    case stop =>
      rintro D c' pre W hD ⟨k, hk, rfl⟩ ⟨⟨rfl, hn, hx1, hx2⟩, hbel⟩ hK
      obtain ⟨E1, E2⟩ := fdV_none (l := l) (b := b) (by rw [EQ.out]; exact fdF_none hk hn)
      obtain ⟨x1, f1⟩ := one_cell hx1
      obtain ⟨x2, f2⟩ := one_cell hx2
      have BEL := Lib.hid hbel
      gi_wp2_with fail
      refine ⟨by simp, .inl ⟨_, _, rfl, run_takeDeferred hK, ?_⟩⟩
      have y1 := Go.cell_kept x1 (grownBy_putObj' W D (.deferred none)) (fun r e => by cases e; exact ⟨_, hK, rfl⟩)
      have y2 := Go.cell_kept x2 (grownBy_putObj' W D (.deferred none)) (fun r e => by cases e; exact ⟨_, hK, rfl⟩)
      exact ⟨.tuple #[.int .i64 0, .bool false], by simp [results, Try.results10, go_sem, y1, y2], by rw [E1, E2], hbel.trans (belowK_b (w := w) (Nat.le_refl _) W D _ _ (by omega) hK rfl rfl)⟩
end Go.Proofs.Ytodjnafalbbmjab
