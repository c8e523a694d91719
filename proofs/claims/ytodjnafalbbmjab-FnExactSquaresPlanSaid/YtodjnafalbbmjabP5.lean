/- Joined: Tg Th Ti Tj. -/
import Derived.Test.YtodjnafalbbmjabP4
/- Plans for several inputs together: as data, and by the program. -/
namespace Go.Proofs.Ytodjnafalbbmjab
open Go.RowKit

def tgI (n : Int) (l : List Int) (p : Nat) (x : List (Int × Int) × Int) : Nat → List (Int × Int) × Int
  | 0 => x
  | i + 1 => if bitB (l.getD i 0).toNat p then onS n (tgI n l p x i) (i : Int) else tgI n l p x i
def tgS (n : Int) (x : List (Int × Int) × Int) : List (Int × Int) × Int := if x.2 = -1 then x else muS n x x.2
def tgP (n : Int) (l : List Int) (L : Nat) : Nat → List (Int × Int) × Int
  | 0 => ([], -1)
  | j + 1 => tgI n l (L - 1 - j) (tgS n (tgP n l L j)) l.length
theorem tgI_len (n : Int) (l : List Int) (p : Nat) (x : List (Int × Int) × Int) (k : Nat) : (tgI n l p x k).1.length ≤ x.1.length + k := by
  induction k with
  | zero => exact Nat.le_refl _
  | succ k ih =>
    unfold tgI
    split
    · have := onS_len n (tgI n l p x k) (k : Int); omega
    · omega
theorem tgS_len (n : Int) (x : List (Int × Int) × Int) : (tgS n x).1.length ≤ x.1.length + 1 := by
  unfold tgS muS
  split <;> simp
theorem tgP_len (n : Int) (l : List Int) (L : Nat) (hl : l.length ≤ 6) (j : Nat) : (tgP n l L j).1.length ≤ 7 * j := by
  induction j with
  | zero => simp [tgP]
  | succ j ih =>
    show (tgI n l (L - 1 - j) (tgS n (tgP n l L j)) l.length).1.length ≤ _
    have h1 := tgI_len n l (L - 1 - j) (tgS n (tgP n l L j)) l.length
    have h2 := tgS_len n (tgP n l L j)
    omega
/-- A value that is there, or none. -/
def vd (x : List (Int × Int) × Int) : Prop := x.2 = -1 ∨ 0 ≤ x.2
theorem vd_mu {n : Int} (hn : 0 ≤ n) (x : List (Int × Int) × Int) (b : Int) : vd (muS n x b) := .inr (by show 0 ≤ n + (x.1.length : Int); omega)
theorem vd_on {n b : Int} (hn : 0 ≤ n) (hb : 0 ≤ b) (x : List (Int × Int) × Int) : vd (onS n x b) := by
  unfold onS
  split
  · exact .inr hb
  · exact vd_mu hn x b
theorem vd_I {n : Int} (hn : 0 ≤ n) (l : List Int) (p : Nat) {x : List (Int × Int) × Int} (h : vd x) (k : Nat) : vd (tgI n l p x k) := by
  induction k with
  | zero => exact h
  | succ k ih =>
    unfold tgI
    split
    · exact vd_on hn (by omega) _
    · exact ih
theorem vd_S {n : Int} (hn : 0 ≤ n) {x : List (Int × Int) × Int} (h : vd x) : vd (tgS n x) := by
  unfold tgS
  split
  · exact h
  · exact vd_mu hn x _
theorem vd_P {n : Int} (hn : 0 ≤ n) (l : List Int) (L j : Nat) : vd (tgP n l L j) := by
  induction j with
  | zero => exact .inl rfl
  | succ j ih => exact vd_I hn l _ (vd_S hn ih) _

def togB (l : List Int) : Bool := inB l.length 1 6 && (allB l 0 1000000 && decide (grA l ≠ 0))
def togP (l : List Int) : Pl := ⟨l.length, (tgP l.length l (bl (grA l)) (bl (grA l))).1, [(tgP l.length l (bl (grA l)) (bl (grA l))).2]⟩
def togR (l : List Int) : Pl := if togB l then mkR (togP l) else zeroP
def togG (l : List Int) : Bool := togB l && good (togP l)
theorem togB_of {l : List Int} (h1 : 1 ≤ l.length) (h6 : l.length ≤ 6) : togB l = (!(decide (mnA l < 0)) && isNum (mxA l)) := by
  obtain ⟨m1, m2⟩ := mnA_prop (l := l) (by omega)
  obtain ⟨x1, x2⟩ := mxA_prop (l := l) (by omega)
  obtain ⟨g0, g1, g2⟩ := grA_prop l
  have hb : ∀ b : Bool, togB l = b ↔ ((allB l 0 1000000 && decide (grA l ≠ 0)) = b) := fun b => by
    unfold togB inB
    rw [decide_eq_true (show (1 : Int) ≤ ((l.length : Nat) : Int) by omega), decide_eq_true (show ((l.length : Nat) : Int) ≤ 6 by omega)]
    simp
  rw [hb]
  rw [Bool.eq_iff_iff]
  unfold allB inB isNum inB
  simp only [Bool.and_eq_true, List.all_eq_true, decide_eq_true_eq, Bool.not_eq_true', decide_eq_false_iff_not, ne_eq]
  constructor
  · rintro ⟨ha, hg⟩
    have := ha _ m2
    have := ha _ x2
    have hgm : grA l ∈ l := by rcases g2 with h | h; exact absurd h hg; exact h
    have := x1 _ hgm
    omega
  · rintro ⟨hm, h1, h2⟩
    refine ⟨fun x hx => ?_, ?_⟩
    · have := m1 x hx
      have := x1 x hx
      omega
    · have := g1 _ x2
      omega
theorem togB_short {l : List Int} (h : l.length < 1) : togB l = false := by
  unfold togB inB
  rw [decide_eq_false (show ¬ (1 : Int) ≤ ((l.length : Nat) : Int) by omega)]
  rfl
theorem togB_long {l : List Int} (h : 6 < l.length) : togB l = false := by
  unfold togB inB
  rw [decide_eq_false (show ¬ ((l.length : Nat) : Int) ≤ 6 by omega)]
  simp
theorem tog_gr {l : List Int} (h1 : 1 ≤ l.length) (h : isNum (mxA l) = true) : grA l = mxA l := by
  obtain ⟨x1, x2⟩ := mxA_prop (l := l) (by omega)
  obtain ⟨g0, g1, g2⟩ := grA_prop l
  have := isNum_rng h
  have := g1 _ x2
  rcases g2 with h | h
  · omega
  · have := x1 _ h
    omega
theorem tog_len (l : List Int) : (togR l).s.length ≤ 1000 ∧ (togR l).o.length ≤ 1000 := by
  unfold togR
  split
  · rename_i h
    have h6 : l.length ≤ 6 := by
      rcases Nat.lt_or_ge 6 l.length with h' | h'
      · rw [togB_long h'] at h; cases h
      · exact h'
    have hg : grA l ≤ 1000000 := by
      obtain ⟨g0, g1, g2⟩ := grA_prop l
      rcases g2 with h' | h'
      · omega
      · unfold togB allB inB at h
        simp only [Bool.and_eq_true, List.all_eq_true, decide_eq_true_eq] at h
        exact (h.2.1 _ h').2
    have hb : bl (grA l) ≤ 20 := bl_bd (by have := (grA_prop l).1; omega)
    refine mkR_len _ ?_ (by simp [togP])
    have := tgP_len l.length l (bl (grA l)) h6 (bl (grA l))
    show (tgP _ _ _ _).1.length ≤ 1000
    omega
  · exact ⟨by simp [zeroP], by simp [zeroP]⟩
end Go.Proofs.Ytodjnafalbbmjab
/- Plans for several inputs together, by the program. -/
namespace Go.Proofs.Ytodjnafalbbmjab
open Go.RowKit

theorem mk_new {w w1 : World} {n : Int} {B : Nat} (h : w.alloc (.cells #[.int .i64 n, .slice none 0 0] 61) = w1) :
    MkS w1 B w.heap.size n [] ∧ Below w.heap.size w w1 := by
  subst h
  exact ⟨⟨none, 0, heap_alloc_new w _, World.ownsRow_nil _ _ _ _⟩, (Below.refl _ _).alloc (Nat.le_refl _) _⟩
theorem one_row' {w : World} {B : Nat} (x : Int) (hB : B ≤ w.heap.size) : (w.alloc (.cells #[.int .i64 x] 3)).ownsRow B 3 1 (.slice (some ⟨w.heap.size, 0, none⟩) 1 1) 1 [I x] :=
  World.ownsRow_lit (base := B) (e := 3) (size := 1) w #[.int .i64 x] 1 hB (by unfold maxLen; omega) (by simp)
theorem one_row (w : World) (x : Int) : OwI (w.alloc (.cells #[.int .i64 x] 3)) w.heap.size (.slice (some ⟨w.heap.size, 0, none⟩) [x].length 1) [x] := one_row' x (Nat.le_refl _)
theorem one_new {w w1 : World} {v : Int} (h : w.alloc (.cells #[.int .i64 v] 3) = w1) : OwI w1 w.heap.size (.slice (some ⟨w.heap.size, 0, none⟩) [v].length 1) [v] ∧ Below w.heap.size w w1 := by
  subst h
  exact ⟨one_row w v, (Below.refl _ _).alloc (Nat.le_refl _) _⟩
theorem zero_box {w w1 : World} (h : w.alloc (.cells #[.int .i64 0, .slice none 0 0, .slice none 0 0] 34) = w1) :
    w1.heap[w.heap.size]? = some (.cells #[.int .i64 0, .slice none 0 0, .slice none 0 0] 34 (0, 0)) ∧ w1.heap.size = w.heap.size + 1 ∧ Below w.heap.size w w1 := by
  subst h
  exact ⟨heap_alloc_new w _, by simp, (Below.refl _ _).alloc (Nat.le_refl _) _⟩

set_option maxRecDepth 100000 in
set_option maxHeartbeats 2000000 in
theorem implTogether_any (B : Nat) (A : Option Addr) (c : Nat) (l : List Int) (w : World) (hB : B ≤ w.heap.size) (hl : l.length ≤ 1048576) (_hcap : l.length ≤ c) (hr : Rd w B 1 A l.length (l.map I)) :
    Calls Try.prog 17 #[.slice A l.length c] w fun e w' =>
      ∃ R1 R2 v1 v2, e = .returned (.tuple #[.agg #[.int .i64 (togR l).n, .slice R1 (togR l).s.length v1, .slice R2 (togR l).o.length v2], .bool (togG l)]) ∧ OwP w' w.heap.size R1 R2 v1 v2 (togR l) ∧ Below w.heap.size w w' := by
  have H := Lib.hid hr
  clear hr
  have bad : togB l = false → togR l = zeroP ∧ togG l = false := fun h => ⟨by unfold togR; rw [if_neg (by rw [h]; decide)], by unfold togG; rw [h]; rfl⟩
  by_cases h1 : l.length < 1
  · obtain ⟨E1, E2⟩ := bad (togB_short h1)
    have e1 := Lib.hid E1
    have e2 := Lib.hid E2
    clear E1 E2 bad
    have i1 : (l.length : Int) < 1 := by omega
    go_enter Try.func17, Try.ntmps17
    go_wp2
    generalize hw1 : World.alloc w _ = w1
    obtain ⟨q0, xs, xb⟩ := zero_box hw1
    clear hw1
    obtain ⟨t0, t1, t2, g0, g1, g2⟩ := cells3 q0
    go_wp2
    refine bodyPost_ret (v := .tuple #[.agg #[.int .i64 0, .slice none 0 0, .slice none 0 0], .bool false]) (by simp [results, Try.results17, go_sem, t0, t1, t2]) rfl ⟨none, none, 0, 0, by rw [e1.out, e2.out]; rfl, by rw [e1.out]; exact OwP.zero _ _, ?_⟩
    first | exact xb | exact ((xb.setCell (Nat.le_refl _) _).setCell (Nat.le_refl _) _).setCell (Nat.le_refl _) _
  by_cases h6 : 6 < l.length
  · obtain ⟨E1, E2⟩ := bad (togB_long h6)
    have e1 := Lib.hid E1
    have e2 := Lib.hid E2
    clear E1 E2 bad
    have i1 : ¬ (l.length : Int) < 1 := by omega
    have i6 : (6 : Int) < (l.length : Int) := by omega
    go_enter Try.func17, Try.ntmps17
    go_wp2
    generalize hw1 : World.alloc w _ = w1
    obtain ⟨q0, xs, xb⟩ := zero_box hw1
    clear hw1
    obtain ⟨t0, t1, t2, g0, g1, g2⟩ := cells3 q0
    go_wp2
    refine bodyPost_ret (v := .tuple #[.agg #[.int .i64 0, .slice none 0 0, .slice none 0 0], .bool false]) (by simp [results, Try.results17, go_sem, t0, t1, t2]) rfl ⟨none, none, 0, 0, by rw [e1.out, e2.out]; rfl, by rw [e1.out]; exact OwP.zero _ _, ?_⟩
    first | exact xb | exact ((xb.setCell (Nat.le_refl _) _).setCell (Nat.le_refl _) _).setCell (Nat.le_refl _) _
  have h1' : 1 ≤ l.length := by omega
  have h6' : l.length ≤ 6 := by omega
  have i1 : ¬ (l.length : Int) < 1 := by omega
  have i6 : ¬ (6 : Int) < (l.length : Int) := by omega
  have hTB := togB_of h1' h6'
  obtain ⟨m, hm⟩ : ∃ m, mnA l = m := ⟨_, rfl⟩
  obtain ⟨M, hM⟩ : ∃ M, mxA l = M := ⟨_, rfl⟩
  have hMin := fun W hrW => min_any w.heap.size A c l W h1' (by omega) hrW
  have hMax := fun W hrW => max_any w.heap.size A c l W h1' (by omega) hrW
  rw [hm] at hMin
  rw [hM] at hMax
  rw [hm, hM] at hTB
  have hm' := hm
  have MIN := Lib.hid hMin
  have MAX := Lib.hid hMax
  have HM := Lib.hid hM
  clear hMin hMax hm
  by_cases hneg : m < 0
  · obtain ⟨E1, E2⟩ := bad (by rw [hTB, decide_eq_true hneg]; rfl)
    have e1 := Lib.hid E1
    have e2 := Lib.hid E2
    clear E1 E2 bad hTB hM hm'
    go_enter Try.func17, Try.ntmps17
    go_wp2_with fail
    go_at_call 41
    generalize hw1 : World.alloc w _ = w1
    obtain ⟨q0, xs, xb⟩ := zero_box hw1
    clear hw1
    refine (MIN.out w1 ((H.out.below' xb hB).more hB)).mono ?_
    rintro e w' ⟨rfl, rfl⟩
    obtain ⟨t0, t1, t2, g0, g1, g2⟩ := cells3 q0
    go_wp2
    refine bodyPost_ret (v := .tuple #[.agg #[.int .i64 0, .slice none 0 0, .slice none 0 0], .bool false]) (by simp [results, Try.results17, go_sem, t0, t1, t2]) rfl ⟨none, none, 0, 0, by rw [e1.out, e2.out]; rfl, by rw [e1.out]; exact OwP.zero _ _, ?_⟩
    first | exact xb | exact ((xb.setCell (Nat.le_refl _) _).setCell (Nat.le_refl _) _).setCell (Nat.le_refl _) _
  obtain ⟨gM, hgM⟩ : ∃ g, isNum M = g := ⟨_, rfl⟩
  cases gM with
  | false =>
    obtain ⟨E1, E2⟩ := bad (by rw [hTB, hgM, Bool.and_false])
    have e1 := Lib.hid E1
    have e2 := Lib.hid E2
    have GM := Lib.hid hgM
    clear E1 E2 bad hTB hM hgM hm'
    go_enter Try.func17, Try.ntmps17
    go_wp2_with fail
    go_at_call 41
    generalize hw1 : World.alloc w _ = w1
    obtain ⟨q0, xs, xb⟩ := zero_box hw1
    clear hw1
    refine (MIN.out w1 ((H.out.below' xb hB).more hB)).mono ?_
    rintro e w' ⟨rfl, rfl⟩
    go_wp2_with (first | (go_at_call 42; refine (MAX.out w1 ((H.out.below' xb hB).more hB)).mono ?_; rintro e w' ⟨rfl, rfl⟩) | (go_at_call 33; refine (isExponent_any M _).mono ?_; rw [GM.out]; rintro e w' ⟨rfl, rfl⟩; obtain ⟨t0, t1, t2, g0, g1, g2⟩ := cells3 q0))
    refine bodyPost_ret (v := .tuple #[.agg #[.int .i64 0, .slice none 0 0, .slice none 0 0], .bool false]) (by simp [results, Try.results17, go_sem, t0, t1, t2]) rfl ⟨none, none, 0, 0, by rw [e1.out, e2.out]; rfl, by rw [e1.out]; exact OwP.zero _ _, ?_⟩
    first | exact xb | exact ((xb.setCell (Nat.le_refl _) _).setCell (Nat.le_refl _) _).setCell (Nat.le_refl _) _
  | true =>
  have HPOS := Lib.hid (show ∀ (i : Nat) (h : i < l.length), ∃ e : Nat, l[i] = (e : Int) from fun i h => by
    have h1 := (mnA_prop (l := l) (by omega)).1 _ (List.getElem_mem h)
    rw [hm'] at h1
    exact ⟨(l[i]).toNat, by omega⟩)
  have ETB := Lib.hid (show togB l = true by rw [hTB, decide_eq_false hneg, hgM]; rfl)
  have hgr : grA l = M := by rw [← hM]; exact tog_gr h1' (by rw [hM]; exact hgM)
  have ⟨mr1, mr2⟩ := isNum_rng hgM
  have GM := Lib.hid hgM
  have GR := Lib.hid hgr
  clear bad hTB hM hgM hgr hm'
  go_enter Try.func17, Try.ntmps17
  go_wp2_with fail
  go_at_call 41
  generalize hw1 : World.alloc w _ = w1
  obtain ⟨q0, xs, xb⟩ := zero_box hw1
  clear hw1
  have Q0 := Lib.hid q0
  have XB := Lib.hid xb
  have XS := Lib.hid xs
  refine (MIN.out w1 ((H.out.below' xb hB).more hB)).mono ?_
  rintro e w' ⟨rfl, rfl⟩
  clear q0 xs xb
  go_wp2_with fail
  go_at_call 42
  refine (MAX.out w1 ((H.out.below' XB.out hB).more hB)).mono ?_
  rintro e w' ⟨rfl, rfl⟩
  go_wp2_with fail
  go_at_call 33
  refine (isExponent_any M _).mono ?_
  rw [GM.out]
  rintro e w' ⟨rfl, rfl⟩
  go_wp2_with fail
  go_at_call 42
  generalize hw2 : World.alloc w1 _ = w2
  obtain ⟨mk2, b2⟩ := mk_new (B := w1.heap.size) hw2
  clear hw2
  have MK := Lib.hid mk2
  have B2 := Lib.hid b2
  have HR := fun W (hW : Below w1.heap.size w1 W) => ((H.out.below' XB.out hB).below' hW (show B ≤ w1.heap.size by have := XS.out; omega))
  have HR2 := Lib.hid HR
  clear mk2 b2 HR
  refine (MAX.out w2 ((HR2.out w2 B2.out).more hB)).mono ?_
  rintro e w' ⟨rfl, rfl⟩
  go_wp2_with fail
  go_at_call 43
  refine (bitsLen_any M _ (by omega) (by omega)).mono ?_
  rintro e w' ⟨rfl, rfl⟩
  obtain ⟨L, hL⟩ : ∃ L, bl (grA l) = L := ⟨_, rfl⟩
  have hL2 : Lib.bitLen M.toNat = L := by rw [← hL, GR.out]; rfl
  have hL20 : L ≤ 20 := by rw [← hL2]; exact bl_bd (by omega)
  rw [hL2]
  have HL := Lib.hid hL
  clear hL hL2
  have hn : ((l.length : Nat) : Int) ≤ 1000 := by omega
  go_wp2
  go_loopw [5, 6] (fun vv pv wr => ∃ j : Nat, j ≤ L ∧ pv = .int .i64 ((L : Int) - 1 - j) ∧ vv = .int .i64 (tgP l.length l L j).2 ∧ MkS wr w1.heap.size w1.heap.size l.length (tgP l.length l L j).1 ∧ Below w1.heap.size w1 wr) (fun _ pv _ => (intOf pv + 1).toNat)
  case atStart => exact ⟨0, by omega, by go_num, rfl, MK.out, B2.out⟩
  case round =>
    obtain ⟨j, hj, rfl, rfl, hmk, hbel⟩ := hrel
    have MKR := Lib.hid hmk
    have BEL := Lib.hid hbel
    clear hmk hbel
    by_cases hlt : j < L
    case neg =>
      have e : j = L := by omega
      subst e
      have ip : ¬ (0 : Int) ≤ (j : Int) - 1 - (j : Int) := by omega
      have ERt := Lib.hid (show togR l = mkR ⟨l.length, (tgP l.length l j j).1, [(tgP l.length l j j).2]⟩ by unfold togR togP; rw [if_pos ETB.out, HL.out])
      have EGt := Lib.hid (show togG l = good ⟨l.length, (tgP l.length l j j).1, [(tgP l.length l j j).2]⟩ by unfold togG togP; rw [ETB.out, HL.out, Bool.true_and])
      have hxl := tgP_len l.length l j h6' j
      obtain ⟨x, hx⟩ : ∃ x, tgP l.length l j j = x := ⟨_, rfl⟩
      rw [hx] at MKR ERt EGt hxl
      rw [hx]
      clear hx
      go_wp2_with fail
      go_at_call 47
      generalize hw4 : World.alloc wr _ = w4
      obtain ⟨ho4, hb4⟩ := one_new hw4
      clear hw4
      refine (makerPlan_any w1.heap.size w1.heap.size _ _ ⟨l.length, x.1, [x.2]⟩ w4 (Nat.le_refl _) (MKR.out.below hb4) (own_base ho4 BEL.out.size) (by show x.1.length ≤ 1000; omega) (by simp)).mono ?_
      rintro e w5 ⟨R1, R2, v1, v2, rfl, ho5, hb5⟩
      rw [← ERt.out, ← EGt.out]
      have hb15 : Below w1.heap.size w1 w5 := BEL.out.trans ((hb4.mono BEL.out.size).trans (hb5.mono (by have := hb4.size; have := BEL.out.size; omega)))
      rw [← ERt.out] at ho5
      have q5 := (hb15.block w.heap.size (by have := XS.out; omega)).trans Q0.out
      obtain ⟨t0, t1, t2, g0, g1, g2⟩ := cells3 q5
      have B5 := Lib.hid (XB.out.trans (hb15.mono (by have := XS.out; omega)))
      have O5 := Lib.hid ho5
      have Q5 := Lib.hid q5
      clear hb15 ho5 q5
      go_wp2
      refine bodyPost_ret (v := .tuple #[.agg #[.int .i64 (togR l).n, .slice R1 (togR l).s.length v1, .slice R2 (togR l).o.length v2], .bool (togG l)]) (by simp [results, Try.results17, go_sem, t0, t1, t2]) rfl ⟨R1, R2, v1, v2, rfl, ?_, ?_⟩
      · refine owP_of3 (own_base O5.out.1 (by have := XS.out; omega)) (own_base O5.out.2 (by have := XS.out; omega)) Q5.out (by decide) (by decide) rfl rfl _ _ _
      · exact ((B5.out.setCell (by simp) _).setCell (by simp) _).setCell (by simp) _
    case pos =>
    obtain ⟨p, hp⟩ : ∃ p : Nat, L - 1 - j = p := ⟨_, rfl⟩
    have ep : (L : Int) - 1 - (j : Int) = (p : Int) := by omega
    have ip : (0 : Int) ≤ (p : Int) := by omega
    have hp20 : p ≤ 60 := by omega
    rw [ep]
    obtain ⟨x, hx⟩ : ∃ x, tgP l.length l L j = x := ⟨_, rfl⟩
    have EP := Lib.hid (show tgP l.length l L (j + 1) = tgI l.length l p (tgS l.length x) l.length by rw [← hx, ← hp]; rfl)
    have hxl : x.1.length ≤ 140 := by rw [← hx]; have := tgP_len l.length l L h6' j; omega
    have HX := Lib.hid hxl
    rw [hx] at MKR
    rw [hx]
    obtain ⟨wo, rfl⟩ : ∃ wo, wo = wr := ⟨wr, rfl⟩
    clear hx hp
    by_cases hv : x.2 = -1
    · have hv' : (x.2 != -1) = false := by simpa using hv
      have ES := Lib.hid (show tgS l.length x = x by unfold tgS; rw [if_pos hv])
      clear hv
      go_wp2
      have MY := Lib.hid (show MkS wo w1.heap.size w1.heap.size l.length (tgS l.length x).1 by rw [ES.out]; exact MKR.out)
      have BY := Lib.hid BEL.out
      have EV := Lib.hid (show x.2 = (tgS l.length x).2 by rw [ES.out])
      rw [EV.out]
      obtain ⟨y, hy⟩ : ∃ y, tgS l.length x = y := ⟨_, rfl⟩
      have hyl : y.1.length ≤ 141 := by rw [← hy]; have := tgS_len l.length x; have := HX.out; omega
      rw [hy] at MY EP
      rw [hy]
      clear hy
      go_loopw [5, 47] (fun vv iv wr => ∃ i : Nat, i ≤ l.length ∧ iv = .int .i64 i ∧ vv = .int .i64 (tgI l.length l p y i).2 ∧ MkS wr w1.heap.size w1.heap.size l.length (tgI l.length l p y i).1 ∧ Below w1.heap.size w1 wr) (fun _ iv _ => l.length - (intOf iv).toNat)
      case atStart => exact ⟨0, by omega, rfl, rfl, MY.out, BY.out⟩
      case round =>
        obtain ⟨i, hi, rfl, rfl, hmk, hbel⟩ := hrel
        have MI := Lib.hid hmk
        have BI := Lib.hid hbel
        clear hmk hbel
        by_cases hil : i < l.length
        · have ii : (i : Int) < (l.length : Int) := by omega
          obtain ⟨b, off, rfl, hb, hcell⟩ := (HR2.out wr BI.out).int hil
          obtain ⟨e, he⟩ := HPOS.out i hil
          rw [he] at hcell
          have hzl := tgI_len l.length l p y i
          obtain ⟨z, hz⟩ : ∃ z, tgI l.length l p y i = z := ⟨_, rfl⟩
          have hget : (l.getD i 0).toNat = e := by simp [hil, he]
          have EZ := Lib.hid (show tgI l.length l p y (i + 1) = if bitB e p then onS l.length z i else z by
            show (if bitB (l.getD i 0).toNat p then onS l.length (tgI l.length l p y i) (i : Int) else tgI l.length l p y i) = _
            rw [hget, hz])
          rw [hz] at MI hzl
          rw [hz]
          clear hz he hget
          cases hbit : bitB e p with
          | true =>
            rw [hbit] at EZ
            have HB := Lib.hid hbit
            have hO := makerOnto_any w1.heap.size w1.heap.size l.length z i wr (Nat.le_refl _) MI.out (by omega) (by omega) hn
            have HO := Lib.hid hO
            clear hbit hO
            go_wp2_with (first
              | (go_at_call 45; refine (hasDigit_any e p _ hp20).mono ?_; rw [HB.out]; rintro e' w' ⟨rfl, rfl⟩)
              | (go_at_call 46; refine HO.out.mono ?_; rintro e' w' ⟨rfl, hm', hb', _⟩))
            go_roundw
            case rel => exact ⟨i + 1, by omega, by go_num, by rw [EZ.out]; rfl, by rw [EZ.out]; exact hm', BI.out.trans hb'⟩
            case measure => simp [intOf]; omega
          | false =>
            rw [hbit] at EZ
            have HB := Lib.hid hbit
            clear hbit
            go_wp2_with (go_at_call 45; refine (hasDigit_any e p _ hp20).mono ?_; rw [HB.out]; rintro e' w' ⟨rfl, rfl⟩)
            go_roundw
            case rel => exact ⟨i + 1, by omega, by go_num, by rw [EZ.out]; rfl, by rw [EZ.out]; exact MI.out, BI.out⟩
            case measure => simp [intOf]; omega
        · have e : i = l.length := by omega
          subst e
          go_wp2
          go_roundw
          case rel => exact ⟨j + 1, by omega, by go_num, by rw [EP.out], by rw [EP.out]; exact MI.out, BI.out⟩
          case measure => simp [intOf]
    · have hv' : (x.2 != -1) = true := by simpa using hv
      have ES := Lib.hid (show tgS l.length x = sqN l.length x 1 by unfold tgS; rw [if_neg hv]; rfl)
      have hS := makerSquare_any w1.heap.size w1.heap.size l.length x 1 wo (Nat.le_refl _) MKR.out (by omega) (by omega) hn
      have HS := Lib.hid hS
      clear hv hS
      go_wp2_with (go_at_call 44; refine HS.out.mono ?_; rintro e w3 ⟨rfl, hm3, hb3, _⟩)
      have MY := Lib.hid (show MkS w3 w1.heap.size w1.heap.size l.length (tgS l.length x).1 by rw [ES.out]; exact hm3)
      have BY := Lib.hid (BEL.out.trans hb3)
      clear hm3 hb3
      rw [← ES.out]
      obtain ⟨y, hy⟩ : ∃ y, tgS l.length x = y := ⟨_, rfl⟩
      have hyl : y.1.length ≤ 141 := by rw [← hy]; have := tgS_len l.length x; have := HX.out; omega
      rw [hy] at MY EP
      rw [hy]
      clear hy
      go_loopw [5, 47] (fun vv iv wr => ∃ i : Nat, i ≤ l.length ∧ iv = .int .i64 i ∧ vv = .int .i64 (tgI l.length l p y i).2 ∧ MkS wr w1.heap.size w1.heap.size l.length (tgI l.length l p y i).1 ∧ Below w1.heap.size w1 wr) (fun _ iv _ => l.length - (intOf iv).toNat)
      case atStart => exact ⟨0, by omega, rfl, rfl, MY.out, BY.out⟩
      case round =>
        obtain ⟨i, hi, rfl, rfl, hmk, hbel⟩ := hrel
        have MI := Lib.hid hmk
        have BI := Lib.hid hbel
        clear hmk hbel
        by_cases hil : i < l.length
        · have ii : (i : Int) < (l.length : Int) := by omega
          obtain ⟨b, off, rfl, hb, hcell⟩ := (HR2.out wr BI.out).int hil
          obtain ⟨e, he⟩ := HPOS.out i hil
          rw [he] at hcell
          have hzl := tgI_len l.length l p y i
          obtain ⟨z, hz⟩ : ∃ z, tgI l.length l p y i = z := ⟨_, rfl⟩
          have hget : (l.getD i 0).toNat = e := by simp [hil, he]
          have EZ := Lib.hid (show tgI l.length l p y (i + 1) = if bitB e p then onS l.length z i else z by
            show (if bitB (l.getD i 0).toNat p then onS l.length (tgI l.length l p y i) (i : Int) else tgI l.length l p y i) = _
            rw [hget, hz])
          rw [hz] at MI hzl
          rw [hz]
          clear hz he hget
          cases hbit : bitB e p with
          | true =>
            rw [hbit] at EZ
            have HB := Lib.hid hbit
            have hO := makerOnto_any w1.heap.size w1.heap.size l.length z i wr (Nat.le_refl _) MI.out (by omega) (by omega) hn
            have HO := Lib.hid hO
            clear hbit hO
            go_wp2_with (first
              | (go_at_call 45; refine (hasDigit_any e p _ hp20).mono ?_; rw [HB.out]; rintro e' w' ⟨rfl, rfl⟩)
              | (go_at_call 46; refine HO.out.mono ?_; rintro e' w' ⟨rfl, hm', hb', _⟩))
            go_roundw
            case rel => exact ⟨i + 1, by omega, by go_num, by rw [EZ.out]; rfl, by rw [EZ.out]; exact hm', BI.out.trans hb'⟩
            case measure => simp [intOf]; omega
          | false =>
            rw [hbit] at EZ
            have HB := Lib.hid hbit
            clear hbit
            go_wp2_with (go_at_call 45; refine (hasDigit_any e p _ hp20).mono ?_; rw [HB.out]; rintro e' w' ⟨rfl, rfl⟩)
            go_roundw
            case rel => exact ⟨i + 1, by omega, by go_num, by rw [EZ.out]; rfl, by rw [EZ.out]; exact MI.out, BI.out⟩
            case measure => simp [intOf]; omega
        · have e : i = l.length := by omega
          subst e
          go_wp2
          go_roundw
          case rel => exact ⟨j + 1, by omega, by go_num, by rw [EP.out], by rw [EP.out]; exact MI.out, BI.out⟩
          case measure => simp [intOf]
end Go.Proofs.Ytodjnafalbbmjab
/- Plans for several inputs together, by the model. -/
namespace Go.Proofs.Ytodjnafalbbmjab
open Go.RowKit

/-- A local plan of the model at block g, without outputs. -/
def PkS (w : World) (B g : Nat) (n : Int) (s : List (Int × Int)) : Prop :=
  ∃ A c, w.heap[g]? = some (.cells #[.int .i64 n, .slice A s.length c, .slice none 0 0] 34 (0, 0)) ∧ OwS w B (.slice A s.length c) s
theorem PkS.below {w w' : World} {B g : Nat} {n : Int} {s : List (Int × Int)} (h : PkS w B g n s) (hb : Below w.heap.size w w') : PkS w' B g n s := by
  obtain ⟨A, c, h1, h2⟩ := h
  exact ⟨A, c, (hb.block g (Array.getElem?_eq_some_iff.1 h1).1).trans h1, own_below h2 hb⟩
theorem pk_new {w w1 : World} {n : Int} {B : Nat} (h : w.alloc (.cells #[.int .i64 n, .slice none 0 0, .slice none 0 0] 34) = w1) :
    PkS w1 B w.heap.size n [] ∧ Below w.heap.size w w1 := by
  subst h
  exact ⟨⟨none, 0, heap_alloc_new w _, World.ownsRow_nil _ _ _ _⟩, (Below.refl _ _).alloc (Nat.le_refl _) _⟩
/-- The new plan is stored. -/
theorem pk_set {w w' : World} {B g : Nat} {n : Int} {s : List (Int × Int)} {A : Option Addr} {c k : Nat} {cs : Array Value} {u0 u1 u2 : Value} (hk : s.length = k) (h : w.heap[g]? = some (.cells #[u0, u1, u2] 34 (0, 0))) (ho : OwS w B (.slice A k c) s)
    (e : ((w.setCell ⟨g, 0, none⟩ (.int .i64 n)).setCell ⟨g, 1, none⟩ (.slice A k c)).setCell ⟨g, 2, none⟩ (.slice none 0 0) = w') (_ : cs = #[u0, u1, u2] := by rfl) : PkS w' B g n s := by
  subst hk
  refine ⟨A, c, mt_set3 h e, ?_⟩
  subst e
  exact own_set3 ho h (by decide) _ _ _

theorem me_box {w w2 : World} {o1 : Obj} {a b c : Value} {t : TypeId} (h : (w.alloc o1).alloc (.cells #[a, b, c] t) = w2) : w2.heap[w.heap.size + 1]? = some (.cells #[a, b, c] t (0, 0)) ∧ w2.heap.size = w.heap.size + 1 + 1 ∧ Below w.heap.size w w2 := by
  subst h
  refine ⟨?_, by simp, ((Below.refl _ _).alloc (Nat.le_refl _) _).alloc (by simp) _⟩
  have := heap_alloc_new (w.alloc o1) (.cells #[a, b, c] t)
  simpa using this
set_option maxHeartbeats 1000000 in
theorem meEnd_any (B : Nat) (A1 A2 : Option Addr) (c1 n2 c2 : Nat) (n v : Int) (s : List (Int × Int)) (w : World) (_hB : B ≤ w.heap.size) (ho : OwS w B (.slice A1 s.length c1) s) :
    Calls Try.prog 40 #[.agg #[.int .i64 n, .slice A1 s.length c1, .slice A2 n2 c2], .int .i64 v] w fun e w' =>
      ∃ A', e = .returned (.agg #[.int .i64 n, .slice A1 s.length c1, .slice A' 1 1]) ∧ OwS w' B (.slice A1 s.length c1) s ∧ OwI w' w.heap.size (.slice A' 1 1) [v] ∧ Below w.heap.size w w' := by
  have HO := Lib.hid ho
  clear ho
  go_enter Try.func40, Try.ntmps40
  go_wp2
  generalize hw1 : World.alloc (World.alloc w _) _ = w1
  obtain ⟨r0, xs, xb⟩ := me_box hw1
  clear hw1
  generalize hw2 : World.alloc w1 _ = w2
  obtain ⟨hv, hb⟩ := one_new hw2
  rw [xs] at hv
  clear hw2
  obtain ⟨t0, t1, t2, _, _, _⟩ := cells3 ((hb.block (w.heap.size + 1) (by omega)).trans r0)
  refine bodyPost_ret (v := .agg #[.int .i64 n, .slice A1 s.length c1, .slice (some ⟨w.heap.size + 1 + 1, 0, none⟩) 1 1]) (by simp [results, Try.results40, go_sem, t0, t1, t2]) rfl ⟨some ⟨w.heap.size + 1 + 1, 0, none⟩, rfl, own_below (own_below HO.out xb) hb, ?_, xb.trans (hb.mono (by omega))⟩
  exact own_base hv (by omega)

/-- What is answered, of a plan or of none. -/
theorem selV_mk {p : Pl} {b : Bool} {A1 A2 : Option Addr} {c1 c2 : Nat} {g B C : Nat} {w w0 : World} (hb : good p = b) (ho : OwP w C A1 A2 c1 c2 p) (hC : B ≤ C) (hg : ∃ cs, w.heap[g]? = some (.cells cs 34 (0, 0))) (hbw : Below B w0 w) (hBg : B ≤ g) :
    ∃ R1 R2 v1 v2, selV b (.agg #[.int .i64 p.n, .slice A1 p.s.length c1, .slice A2 p.o.length c2]) (.agg #[.int .i64 0, .slice none 0 0, .slice none 0 0]) = .agg #[.int .i64 (mkR p).n, .slice R1 (mkR p).s.length v1, .slice R2 (mkR p).o.length v2] ∧
      OwP (((w.setCell ⟨g, 0, none⟩ (.int .i64 (mkR p).n)).setCell ⟨g, 1, none⟩ (.slice R1 (mkR p).s.length v1)).setCell ⟨g, 2, none⟩ (.slice R2 (mkR p).o.length v2)) B R1 R2 v1 v2 (mkR p) ∧
      Below B w0 (((w.setCell ⟨g, 0, none⟩ (.int .i64 (mkR p).n)).setCell ⟨g, 1, none⟩ (.slice R1 (mkR p).s.length v1)).setCell ⟨g, 2, none⟩ (.slice R2 (mkR p).o.length v2)) := by
  obtain ⟨cs, hg⟩ := hg
  cases b with
  | false =>
    rw [mkR_false hb]
    exact ⟨none, none, 0, 0, rfl, OwP.zero _ _, ((hbw.setCell hBg _).setCell hBg _).setCell hBg _⟩
  | true =>
    rw [mkR_true hb]
    exact ⟨A1, A2, c1, c2, rfl, owP_of3 (own_base ho.1 hC) (own_base ho.2 hC) hg (by decide) (by decide) rfl rfl _ _ _, ((hbw.setCell hBg _).setCell hBg _).setCell hBg _⟩
end Go.Proofs.Ytodjnafalbbmjab
/- Plans for several inputs together, by the model. -/
namespace Go.Proofs.Ytodjnafalbbmjab
open Go.RowKit

theorem bit_mod (e p : Nat) : ((e : Int) / 2 ^ p).tmod 2 = if bitB e p then 1 else 0 := by
  have h : ((e : Int) / 2 ^ p).tmod 2 = ((e / 2 ^ p % 2 : Nat) : Int) := by
    rw [show (e : Int) / 2 ^ p = ((e / 2 ^ p : Nat) : Int) by push_cast; rfl]
    rfl
  rw [h]
  unfold bitB
  rcases Nat.mod_two_eq_zero_or_one (e / 2 ^ p) with h | h <;> rw [h] <;> rfl
theorem togB_in {l : List Int} (h : inB l.length 1 6 = false) : togB l = false := by unfold togB; rw [h]; rfl
theorem togB_all {l : List Int} (h : allB l 0 1000000 = false) : togB l = false := by unfold togB; rw [h]; simp
theorem togB_zero {l : List Int} (h : grA l = 0) : togB l = false := by unfold togB; rw [h]; simp

set_option maxRecDepth 100000 in
set_option maxHeartbeats 4000000 in
theorem specTogether_any (B : Nat) (A : Option Addr) (c : Nat) (l : List Int) (w : World) (hB : B ≤ w.heap.size) (hl : l.length ≤ 1048576) (_hcap : l.length ≤ c) (hr : Rd w B 1 A l.length (l.map I)) :
    Calls Try.prog 16 #[.slice A l.length c] w fun e w' =>
      ∃ R1 R2 v1 v2, e = .returned (.tuple #[.agg #[.int .i64 (togR l).n, .slice R1 (togR l).s.length v1, .slice R2 (togR l).o.length v2], .bool (togG l)]) ∧ OwP w' w.heap.size R1 R2 v1 v2 (togR l) ∧ Below w.heap.size w w' := by
  have H := Lib.hid hr
  clear hr
  have bad : togB l = false → togR l = zeroP ∧ togG l = false := fun h => ⟨by unfold togR; rw [if_neg (by rw [h]; decide)], by unfold togG; rw [h]; rfl⟩
  obtain ⟨bi, hbi⟩ : ∃ b, inB l.length 1 6 = b := ⟨_, rfl⟩
  have IN := Lib.hid hbi
  cases bi with
  | false =>
    obtain ⟨E1, E2⟩ := bad (togB_in hbi)
    have e1 := Lib.hid E1
    have e2 := Lib.hid E2
    clear E1 E2 bad
    clear hbi
    go_enter Try.func16, Try.ntmps16
    go_wp2_with fail
    go_at_call 29
    generalize hw1 : World.alloc w _ = w1
    obtain ⟨q0, xs, xb⟩ := zero_box hw1
    clear hw1
    refine (l1In_any _ _ _ _).mono ?_
    rw [IN.out]
    rintro e w' ⟨rfl, rfl⟩
    obtain ⟨t0, t1, t2, g0, g1, g2⟩ := cells3 q0
    go_wp2
    refine bodyPost_ret (v := .tuple #[.agg #[.int .i64 0, .slice none 0 0, .slice none 0 0], .bool false]) (by simp [results, Try.results16, go_sem, t0, t1, t2]) rfl ⟨none, none, 0, 0, by rw [e1.out, e2.out]; rfl, by rw [e1.out]; exact OwP.zero _ _, ?_⟩
    exact ((xb.setCell (Nat.le_refl _) _).setCell (Nat.le_refl _) _).setCell (Nat.le_refl _) _
  | true =>
  have hlen : 1 ≤ l.length ∧ l.length ≤ 6 := by
    have h := hbi
    unfold inB at h
    simp only [Bool.and_eq_true, decide_eq_true_eq] at h
    omega
  obtain ⟨h1', h6'⟩ := hlen
  obtain ⟨ba, hba⟩ : ∃ b, allB l 0 1000000 = b := ⟨_, rfl⟩
  have ALL := fun W hrW => l1All_any w.heap.size A c l 0 1000000 W (by omega) hrW
  rw [hba] at ALL
  have HALL := Lib.hid ALL
  clear ALL
  cases ba with
  | false =>
    obtain ⟨E1, E2⟩ := bad (togB_all hba)
    have e1 := Lib.hid E1
    have e2 := Lib.hid E2
    clear E1 E2 bad
    clear hbi hba
    go_enter Try.func16, Try.ntmps16
    go_wp2_with fail
    go_at_call 29
    generalize hw1 : World.alloc w _ = w1
    obtain ⟨q0, xs, xb⟩ := zero_box hw1
    clear hw1
    refine (l1In_any _ _ _ _).mono ?_
    rw [IN.out]
    rintro e w' ⟨rfl, rfl⟩
    obtain ⟨t0, t1, t2, g0, g1, g2⟩ := cells3 q0
    go_wp2_with (go_at_call 30; refine (HALL.out _ ((H.out.below' xb hB).more hB)).mono ?_; rintro e w' ⟨rfl, rfl⟩)
    refine bodyPost_ret (v := .tuple #[.agg #[.int .i64 0, .slice none 0 0, .slice none 0 0], .bool false]) (by simp [results, Try.results16, go_sem, t0, t1, t2]) rfl ⟨none, none, 0, 0, by rw [e1.out, e2.out]; rfl, by rw [e1.out]; exact OwP.zero _ _, ?_⟩
    exact ((xb.setCell (Nat.le_refl _) _).setCell (Nat.le_refl _) _).setCell (Nat.le_refl _) _
  | true =>
  obtain ⟨G, hG⟩ : ∃ G, grA l = G := ⟨_, rfl⟩
  have GRE := fun W hrW => meGreatest_any w.heap.size A c l W (by omega) hrW
  rw [hG] at GRE
  have HGRE := Lib.hid GRE
  clear GRE
  by_cases hz : G = 0
  · have hz' : (G == 0) = true := by simpa using hz
    obtain ⟨E1, E2⟩ := bad (togB_zero (by rw [hG]; exact hz))
    have e1 := Lib.hid E1
    have e2 := Lib.hid E2
    clear E1 E2 bad
    clear hbi hba hz hG
    go_enter Try.func16, Try.ntmps16
    go_wp2_with fail
    go_at_call 29
    generalize hw1 : World.alloc w _ = w1
    obtain ⟨q0, xs, xb⟩ := zero_box hw1
    clear hw1
    refine (l1In_any _ _ _ _).mono ?_
    rw [IN.out]
    rintro e w' ⟨rfl, rfl⟩
    obtain ⟨t0, t1, t2, g0, g1, g2⟩ := cells3 q0
    go_wp2_with (first | (go_at_call 30; refine (HALL.out _ ((H.out.below' xb hB).more hB)).mono ?_; rintro e w' ⟨rfl, rfl⟩) | (go_at_call 36; refine (HGRE.out _ ((H.out.below' xb hB).more hB)).mono ?_; rintro e w' ⟨rfl, rfl⟩))
    refine bodyPost_ret (v := .tuple #[.agg #[.int .i64 0, .slice none 0 0, .slice none 0 0], .bool false]) (by simp [results, Try.results16, go_sem, t0, t1, t2]) rfl ⟨none, none, 0, 0, by rw [e1.out, e2.out]; rfl, by rw [e1.out]; exact OwP.zero _ _, ?_⟩
    exact ((xb.setCell (Nat.le_refl _) _).setCell (Nat.le_refl _) _).setCell (Nat.le_refl _) _
  have hz' : (G == 0) = false := by simpa using hz
  have ETB := Lib.hid (show togB l = true by unfold togB; rw [hbi, hba, hG, decide_eq_true hz]; rfl)
  have hpos : ∀ x ∈ l, 0 ≤ x ∧ x ≤ 1000000 := by
    have h := hba
    unfold allB inB at h
    simpa using h
  have HPOS := Lib.hid (show ∀ (i : Nat) (h : i < l.length), ∃ e : Nat, l[i] = (e : Int) from fun i h => ⟨(l[i]).toNat, by have := (hpos _ (List.getElem_mem h)).1; omega⟩)
  have hG0 : 0 ≤ G ∧ G ≤ 1000000 := by
    obtain ⟨g0, g1, g2⟩ := grA_prop l
    rw [hG] at g0 g2
    rcases g2 with h | h
    · omega
    · exact hpos _ h
  obtain ⟨hG0, hG1⟩ := hG0
  have GR := Lib.hid hG
  clear hbi hba hG hz bad hpos
  go_enter Try.func16, Try.ntmps16
  go_wp2_with fail
  go_at_call 29
  generalize hw1 : World.alloc w _ = w1
  obtain ⟨q0, xs, xb⟩ := zero_box hw1
  clear hw1
  have Q0 := Lib.hid q0
  have XB := Lib.hid xb
  have XS := Lib.hid xs
  clear q0 xs xb
  refine (l1In_any _ _ _ _).mono ?_
  rw [IN.out]
  rintro e w' ⟨rfl, rfl⟩
  go_wp2_with fail
  go_at_call 30
  refine (HALL.out _ ((H.out.below' XB.out hB).more hB)).mono ?_
  rintro e w' ⟨rfl, rfl⟩
  go_wp2_with fail
  go_at_call 36
  refine (HGRE.out _ ((H.out.below' XB.out hB).more hB)).mono ?_
  rintro e w' ⟨rfl, rfl⟩
  go_wp2_with fail
  go_at_call 36
  generalize hw2 : World.alloc w1 _ = w2
  obtain ⟨mk2, b2⟩ := pk_new (B := w1.heap.size) hw2
  clear hw2
  have MK := Lib.hid mk2
  have B2 := Lib.hid b2
  have HR := fun W (hW : Below w1.heap.size w1 W) => ((H.out.below' XB.out hB).below' hW (show B ≤ w1.heap.size by have := XS.out; omega))
  have HR2 := Lib.hid HR
  clear mk2 b2 HR
  refine (HGRE.out w2 ((HR2.out w2 B2.out).more hB)).mono ?_
  rintro e w' ⟨rfl, rfl⟩
  go_wp2_with fail
  go_at_call 37
  refine (chLength_any G _ hG0 hG1).mono ?_
  rintro e w' ⟨rfl, rfl⟩
  obtain ⟨L, hL⟩ : ∃ L, bl G = L := ⟨_, rfl⟩
  have hL20 : L ≤ 20 := by rw [← hL]; exact bl_bd (by omega)
  have HL := Lib.hid (show bl (grA l) = L by rw [GR.out, hL])
  rw [hL]
  clear hL
  have hn : ((l.length : Nat) : Int) ≤ 1000 := by omega
  go_wp2
  go_loopw [5, 6] (fun vv pv wr => ∃ j : Nat, j ≤ L ∧ pv = .int .i64 ((L : Int) - 1 - j) ∧ vv = .int .i64 (tgP l.length l L j).2 ∧ PkS wr w1.heap.size w1.heap.size l.length (tgP l.length l L j).1 ∧ Below w1.heap.size w1 wr) (fun _ pv _ => (intOf pv + 1).toNat)
  case atStart => exact ⟨0, by omega, by go_num, rfl, MK.out, B2.out⟩
  case round =>
    obtain ⟨j, hj, rfl, rfl, hmk, hbel⟩ := hrel
    have MKR := Lib.hid hmk
    have BEL := Lib.hid hbel
    clear hmk hbel
    by_cases hlt : j < L
    case neg =>
      have e : j = L := by omega
      subst e
      have ip : ¬ (0 : Int) ≤ (j : Int) - 1 - (j : Int) := by omega
      have hxl := tgP_len l.length l j h6' j
      obtain ⟨x, hx⟩ : ∃ x, tgP l.length l j j = x := ⟨_, rfl⟩
      obtain ⟨P, hP⟩ : ∃ P : Pl, (⟨l.length, x.1, [x.2]⟩ : Pl) = P := ⟨_, rfl⟩
      have ERt := Lib.hid (show togR l = mkR P by rw [← hP, ← hx]; unfold togR togP; rw [if_pos ETB.out, HL.out])
      have EGt := Lib.hid (show togG l = good P by rw [← hP, ← hx]; unfold togG togP; rw [ETB.out, HL.out, Bool.true_and])
      rw [hx] at MKR hxl
      rw [hx]
      clear hx
      obtain ⟨A4, c4, hblk, hown⟩ := MKR.out
      obtain ⟨y0, y1, y2, _, _, _⟩ := cells3 hblk
      have OWN := Lib.hid hown
      have EPP := Lib.hid hP
      clear hblk hown hP
      go_wp2_with fail
      go_at_call 40
      refine (meEnd_any w1.heap.size A4 none c4 0 0 l.length x.2 x.1 wr BEL.out.size OWN.out).mono ?_
      rintro e w3 ⟨A5, rfl, hs3, ho3, hb3⟩
      have RD := Lib.hid (show RdP w3 w3.heap.size A4 A5 ⟨l.length, x.1, [x.2]⟩ from ⟨Rd.of_own hs3, Rd.of_own ho3⟩)
      have OWP := Lib.hid (show OwP w3 w1.heap.size A4 A5 c4 1 ⟨l.length, x.1, [x.2]⟩ from ⟨hs3, own_base ho3 BEL.out.size⟩)
      have B3 := Lib.hid (BEL.out.trans (hb3.mono BEL.out.size))
      clear hs3 ho3 hb3 y0 y1 y2
      go_wp2_with fail
      go_at_call 39
      refine (plIf_any w3.heap.size A4 A5 c4 1 ⟨l.length, x.1, [x.2]⟩ w3 (Nat.le_refl _) (by show x.1.length ≤ 2000000; omega) (by simp) RD.out).mono ?_
      rintro e w5 ⟨rfl, hb5⟩
      have B5 := Lib.hid (B3.out.trans (hb5.mono B3.out.size))
      have Q5 := Lib.hid ((B5.out.block w.heap.size (by have := XS.out; omega)).trans Q0.out)
      have O5 := Lib.hid (show OwP w5 w1.heap.size A4 A5 c4 1 ⟨l.length, x.1, [x.2]⟩ from ⟨own_below OWP.out.1 hb5, own_below OWP.out.2 hb5⟩)
      obtain ⟨R1, R2, v1, v2, hsel, hres, hbel⟩ := selV_mk (w0 := w) (B := w.heap.size) (g := w.heap.size) rfl O5.out (by have := XS.out; omega) ⟨_, Q5.out⟩ (XB.out.trans (B5.out.mono (by have := XS.out; omega))) (Nat.le_refl _)
      rw [hsel]
      rw [EPP.out] at hres hbel ⊢
      rw [← ERt.out] at hres hbel
      rw [← ERt.out, ← EGt.out]
      obtain ⟨t0, t1, t2, g0, g1, g2⟩ := cells3 Q5.out
      have RES := Lib.hid hres
      have BRES := Lib.hid hbel
      clear hb5 hsel hres hbel
      go_wp2
      refine bodyPost_ret (v := .tuple #[.agg #[.int .i64 (togR l).n, .slice R1 (togR l).s.length v1, .slice R2 (togR l).o.length v2], .bool (togG l)]) (by simp [results, Try.results16, go_sem, t0, t1, t2]) rfl ⟨R1, R2, v1, v2, rfl, RES.out, BRES.out⟩
    case pos =>
    obtain ⟨p, hp⟩ : ∃ p : Nat, L - 1 - j = p := ⟨_, rfl⟩
    have ep : (L : Int) - 1 - (j : Int) = (p : Int) := by omega
    have ip : (0 : Int) ≤ (p : Int) := by omega
    have hp20 : p ≤ 60 := by omega
    rw [ep]
    have hxv := vd_P (n := (l.length : Int)) (by omega) l L j
    obtain ⟨x, hx⟩ : ∃ x, tgP l.length l L j = x := ⟨_, rfl⟩
    have EP := Lib.hid (show tgP l.length l L (j + 1) = tgI l.length l p (tgS l.length x) l.length by rw [← hx, ← hp]; rfl)
    have hxl : x.1.length ≤ 140 := by rw [← hx]; have := tgP_len l.length l L h6' j; omega
    have HX := Lib.hid hxl
    rw [hx] at MKR hxv
    rw [hx]
    have VX := Lib.hid hxv
    obtain ⟨wo, rfl⟩ : ∃ wo, wo = wr := ⟨wr, rfl⟩
    clear hx hp hxv
    by_cases hv : x.2 = -1
    · have hv' : ¬ (0 : Int) ≤ x.2 := by omega
      have ES := Lib.hid (show tgS l.length x = x by unfold tgS; rw [if_pos hv])
      clear hv
      go_wp2
      have MY := Lib.hid (show PkS wo w1.heap.size w1.heap.size l.length (tgS l.length x).1 by rw [ES.out]; exact MKR.out)
      have BY := Lib.hid BEL.out
      have EV := Lib.hid (show x.2 = (tgS l.length x).2 by rw [ES.out])
      rw [EV.out]
      obtain ⟨y, hy⟩ : ∃ y, tgS l.length x = y := ⟨_, rfl⟩
      have hyl : y.1.length ≤ 141 := by rw [← hy]; have := tgS_len l.length x; have := HX.out; omega
      have hyv : vd y := by rw [← hy]; exact vd_S (by omega) VX.out
      rw [hy] at MY EP
      rw [hy]
      have VY := Lib.hid hyv
      clear hy hyv
      go_loopw [5, 46] (fun vv iv wr => ∃ i : Nat, i ≤ l.length ∧ iv = .int .i64 i ∧ vv = .int .i64 (tgI l.length l p y i).2 ∧ PkS wr w1.heap.size w1.heap.size l.length (tgI l.length l p y i).1 ∧ Below w1.heap.size w1 wr) (fun _ iv _ => l.length - (intOf iv).toNat)
      case atStart => exact ⟨0, by omega, rfl, rfl, MY.out, BY.out⟩
      case round =>
        obtain ⟨i, hi, rfl, rfl, hmk, hbel⟩ := hrel
        have MI := Lib.hid hmk
        have BI := Lib.hid hbel
        clear hmk hbel
        by_cases hil : i < l.length
        · have ii : (i : Int) < (l.length : Int) := by omega
          obtain ⟨b, off, rfl, hb, hcell⟩ := (HR2.out wr BI.out).int hil
          obtain ⟨e, he⟩ := HPOS.out i hil
          rw [he] at hcell
          have hzl := tgI_len l.length l p y i
          have hzv := vd_I (n := (l.length : Int)) (by omega) l p VY.out i
          obtain ⟨z, hz⟩ : ∃ z, tgI l.length l p y i = z := ⟨_, rfl⟩
          have hget : (l.getD i 0).toNat = e := by simp [hil, he]
          have EZ := Lib.hid (show tgI l.length l p y (i + 1) = if bitB e p then onS l.length z i else z by
            show (if bitB (l.getD i 0).toNat p then onS l.length (tgI l.length l p y i) (i : Int) else tgI l.length l p y i) = _
            rw [hget, hz])
          rw [hz] at MI hzl hzv
          rw [hz]
          have hed : ((e : Int) / 2 ^ p).tmod 2 = if bitB e p then 1 else 0 := bit_mod e p
          clear hz he hget
          cases hbit : bitB e p with
          | true =>
            rw [hbit] at EZ hed
            rw [if_pos rfl] at hed
            have hed2 : (((e : Int) / 2 ^ p).tmod 2 == 0) = false := by rw [hed]; rfl
            clear hbit
            by_cases hv : z.2 = -1
            · have hv' : z.2 < 0 := by omega
              have EO := Lib.hid (show onS l.length z i = (z.1, (i : Int)) by unfold onS; rw [if_pos hv])
              clear hv hzv
              go_wp2
              go_roundw
              case rel => exact ⟨i + 1, by omega, by go_num, by rw [EZ.out]; show _ = Value.int .i64 (onS l.length z i).2; rw [EO.out], by rw [EZ.out]; show PkS _ _ _ _ (onS l.length z i).1; rw [EO.out]; exact MI.out, BI.out⟩
              case measure => simp [intOf]; omega
            · have hv' : ¬ z.2 < 0 := by rcases hzv with h | h <;> omega
              have EO := Lib.hid (show onS l.length z i = muS l.length z i by unfold onS; rw [if_neg hv])
              obtain ⟨A4, c4, hblk, hown⟩ := MI.out
              obtain ⟨y0, y1, y2, _, _, _⟩ := cells3 hblk
              have BLK := Lib.hid hblk
              have OWN := Lib.hid hown
              have hT := meTimes_any wr.heap.size A4 none c4 0 0 l.length z.1 z.2 i wr (Nat.le_refl _) (by omega) (by omega) hn (Rd.of_own hown)
              have HT := Lib.hid hT
              clear hv hzv hblk hown hT
              go_wp2_with (go_at_call 38; refine HT.out.mono ?_; rintro e' w3 ⟨A5, c5, rfl, ho3, hb3⟩; have h3 := (hb3.block _ (Array.getElem?_eq_some_iff.1 BLK.out).1).trans BLK.out; obtain ⟨t0, t1, t2, g0, g1, g2⟩ := cells3 h3)
              obtain ⟨w4, hw4⟩ : ∃ w4, ((World.setCell w3 ⟨w1.heap.size, 0, none⟩ (.int .i64 l.length)).setCell ⟨w1.heap.size, 1, none⟩ (.slice A5 (z.1.length + 1) c5)).setCell ⟨w1.heap.size, 2, none⟩ (.slice none 0 0) = w4 := ⟨_, rfl⟩
              rw [hw4]
              have MN := Lib.hid (pk_set (cs := #[_, _, _]) (by simp) h3 (own_base ho3 BI.out.size) hw4)
              have BN := Lib.hid (show Below w1.heap.size w1 w4 from by subst hw4; exact (((BI.out.trans (hb3.mono BI.out.size)).setCell (Nat.le_refl _) _).setCell (Nat.le_refl _) _).setCell (Nat.le_refl _) _)
              clear hw4 h3 ho3 hb3 y0 y1 y2 t0 t1 t2 g0 g1 g2
              go_roundw
              case rel => exact ⟨i + 1, by omega, by go_num, by rw [EZ.out]; show _ = Value.int .i64 (onS l.length z i).2; rw [EO.out]; rfl, by rw [EZ.out]; show PkS _ _ _ _ (onS l.length z i).1; rw [EO.out]; exact MN.out, BN.out⟩
              case measure => simp [intOf]; omega
          | false =>
            rw [hbit] at EZ hed
            rw [if_neg (by decide)] at hed
            have hed2 : (((e : Int) / 2 ^ p).tmod 2 == 0) = true := by rw [hed]; rfl
            clear hbit
            go_wp2
            go_roundw
            case rel => exact ⟨i + 1, by omega, by go_num, by rw [EZ.out]; rfl, by rw [EZ.out]; exact MI.out, BI.out⟩
            case measure => simp [intOf]; omega
        · have e : i = l.length := by omega
          subst e
          go_wp2
          go_roundw
          case rel => exact ⟨j + 1, by omega, by go_num, by rw [EP.out], by rw [EP.out]; exact MI.out, BI.out⟩
          case measure => simp [intOf]
    · have hv' : (0 : Int) ≤ x.2 := by rcases VX.out with h | h <;> omega
      have ES := Lib.hid (show tgS l.length x = muS l.length x x.2 by unfold tgS; rw [if_neg hv])
      obtain ⟨A4, c4, hblk, hown⟩ := MKR.out
      obtain ⟨y0, y1, y2, _, _, _⟩ := cells3 hblk
      have BLK := Lib.hid hblk
      have hT := meTimes_any wo.heap.size A4 none c4 0 0 l.length x.1 x.2 x.2 wo (Nat.le_refl _) (by omega) (by omega) hn (Rd.of_own hown)
      have HT := Lib.hid hT
      clear hv hblk hown hT
      go_wp2_with (go_at_call 38; refine HT.out.mono ?_; rintro e' w3 ⟨A5, c5, rfl, ho3, hb3⟩; have h3 := (hb3.block _ (Array.getElem?_eq_some_iff.1 BLK.out).1).trans BLK.out; obtain ⟨t0, t1, t2, g0, g1, g2⟩ := cells3 h3)
      obtain ⟨w4, hw4⟩ : ∃ w4, ((World.setCell w3 ⟨w1.heap.size, 0, none⟩ (.int .i64 l.length)).setCell ⟨w1.heap.size, 1, none⟩ (.slice A5 (x.1.length + 1) c5)).setCell ⟨w1.heap.size, 2, none⟩ (.slice none 0 0) = w4 := ⟨_, rfl⟩
      rw [hw4]
      have MN := Lib.hid (pk_set (cs := #[_, _, _]) (by simp) h3 (own_base ho3 BEL.out.size) hw4)
      have BY := Lib.hid (show Below w1.heap.size w1 w4 from by subst hw4; exact (((BEL.out.trans (hb3.mono BEL.out.size)).setCell (Nat.le_refl _) _).setCell (Nat.le_refl _) _).setCell (Nat.le_refl _) _)
      clear hw4 h3 ho3 hb3 y0 y1 y2 t0 t1 t2 g0 g1 g2
      have MY := Lib.hid (show PkS w4 w1.heap.size w1.heap.size l.length (tgS l.length x).1 by rw [ES.out]; exact MN.out)
      have EV := Lib.hid (show (l.length : Int) + x.1.length = (tgS l.length x).2 by rw [ES.out]; rfl)
      rw [EV.out]
      obtain ⟨y, hy⟩ : ∃ y, tgS l.length x = y := ⟨_, rfl⟩
      have hyl : y.1.length ≤ 141 := by rw [← hy]; have := tgS_len l.length x; have := HX.out; omega
      have hyv : vd y := by rw [← hy]; exact vd_S (by omega) VX.out
      rw [hy] at MY EP
      rw [hy]
      have VY := Lib.hid hyv
      clear hy hyv
      go_loopw [5, 46] (fun vv iv wr => ∃ i : Nat, i ≤ l.length ∧ iv = .int .i64 i ∧ vv = .int .i64 (tgI l.length l p y i).2 ∧ PkS wr w1.heap.size w1.heap.size l.length (tgI l.length l p y i).1 ∧ Below w1.heap.size w1 wr) (fun _ iv _ => l.length - (intOf iv).toNat)
      case atStart => exact ⟨0, by omega, rfl, rfl, MY.out, BY.out⟩
      case round =>
        obtain ⟨i, hi, rfl, rfl, hmk, hbel⟩ := hrel
        have MI := Lib.hid hmk
        have BI := Lib.hid hbel
        clear hmk hbel
        by_cases hil : i < l.length
        · have ii : (i : Int) < (l.length : Int) := by omega
          obtain ⟨b, off, rfl, hb, hcell⟩ := (HR2.out wr BI.out).int hil
          obtain ⟨e, he⟩ := HPOS.out i hil
          rw [he] at hcell
          have hzl := tgI_len l.length l p y i
          have hzv := vd_I (n := (l.length : Int)) (by omega) l p VY.out i
          obtain ⟨z, hz⟩ : ∃ z, tgI l.length l p y i = z := ⟨_, rfl⟩
          have hget : (l.getD i 0).toNat = e := by simp [hil, he]
          have EZ := Lib.hid (show tgI l.length l p y (i + 1) = if bitB e p then onS l.length z i else z by
            show (if bitB (l.getD i 0).toNat p then onS l.length (tgI l.length l p y i) (i : Int) else tgI l.length l p y i) = _
            rw [hget, hz])
          rw [hz] at MI hzl hzv
          rw [hz]
          have hed : ((e : Int) / 2 ^ p).tmod 2 = if bitB e p then 1 else 0 := bit_mod e p
          clear hz he hget
          cases hbit : bitB e p with
          | true =>
            rw [hbit] at EZ hed
            rw [if_pos rfl] at hed
            have hed2 : (((e : Int) / 2 ^ p).tmod 2 == 0) = false := by rw [hed]; rfl
            clear hbit
            by_cases hv : z.2 = -1
            · have hv' : z.2 < 0 := by omega
              have EO := Lib.hid (show onS l.length z i = (z.1, (i : Int)) by unfold onS; rw [if_pos hv])
              clear hv hzv
              go_wp2
              go_roundw
              case rel => exact ⟨i + 1, by omega, by go_num, by rw [EZ.out]; show _ = Value.int .i64 (onS l.length z i).2; rw [EO.out], by rw [EZ.out]; show PkS _ _ _ _ (onS l.length z i).1; rw [EO.out]; exact MI.out, BI.out⟩
              case measure => simp [intOf]; omega
            · have hv' : ¬ z.2 < 0 := by rcases hzv with h | h <;> omega
              have EO := Lib.hid (show onS l.length z i = muS l.length z i by unfold onS; rw [if_neg hv])
              obtain ⟨A4, c4, hblk, hown⟩ := MI.out
              obtain ⟨y0, y1, y2, _, _, _⟩ := cells3 hblk
              have BLK := Lib.hid hblk
              have OWN := Lib.hid hown
              have hT := meTimes_any wr.heap.size A4 none c4 0 0 l.length z.1 z.2 i wr (Nat.le_refl _) (by omega) (by omega) hn (Rd.of_own hown)
              have HT := Lib.hid hT
              clear hv hzv hblk hown hT
              go_wp2_with (go_at_call 38; refine HT.out.mono ?_; rintro e' w3 ⟨A5, c5, rfl, ho3, hb3⟩; have h3 := (hb3.block _ (Array.getElem?_eq_some_iff.1 BLK.out).1).trans BLK.out; obtain ⟨t0, t1, t2, g0, g1, g2⟩ := cells3 h3)
              obtain ⟨w4, hw4⟩ : ∃ w4, ((World.setCell w3 ⟨w1.heap.size, 0, none⟩ (.int .i64 l.length)).setCell ⟨w1.heap.size, 1, none⟩ (.slice A5 (z.1.length + 1) c5)).setCell ⟨w1.heap.size, 2, none⟩ (.slice none 0 0) = w4 := ⟨_, rfl⟩
              rw [hw4]
              have MN := Lib.hid (pk_set (cs := #[_, _, _]) (by simp) h3 (own_base ho3 BI.out.size) hw4)
              have BN := Lib.hid (show Below w1.heap.size w1 w4 from by subst hw4; exact (((BI.out.trans (hb3.mono BI.out.size)).setCell (Nat.le_refl _) _).setCell (Nat.le_refl _) _).setCell (Nat.le_refl _) _)
              clear hw4 h3 ho3 hb3 y0 y1 y2 t0 t1 t2 g0 g1 g2
              go_roundw
              case rel => exact ⟨i + 1, by omega, by go_num, by rw [EZ.out]; show _ = Value.int .i64 (onS l.length z i).2; rw [EO.out]; rfl, by rw [EZ.out]; show PkS _ _ _ _ (onS l.length z i).1; rw [EO.out]; exact MN.out, BN.out⟩
              case measure => simp [intOf]; omega
          | false =>
            rw [hbit] at EZ hed
            rw [if_neg (by decide)] at hed
            have hed2 : (((e : Int) / 2 ^ p).tmod 2 == 0) = true := by rw [hed]; rfl
            clear hbit
            go_wp2
            go_roundw
            case rel => exact ⟨i + 1, by omega, by go_num, by rw [EZ.out]; rfl, by rw [EZ.out]; exact MI.out, BI.out⟩
            case measure => simp [intOf]; omega
        · have e : i = l.length := by omega
          subst e
          go_wp2
          go_roundw
          case rel => exact ⟨j + 1, by omega, by go_num, by rw [EP.out], by rw [EP.out]; exact MI.out, BI.out⟩
          case measure => simp [intOf]
end Go.Proofs.Ytodjnafalbbmjab
