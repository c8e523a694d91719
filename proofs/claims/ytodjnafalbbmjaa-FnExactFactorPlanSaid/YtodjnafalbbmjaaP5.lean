/- Joined: Tg Th Ti. -/
import Derived.Test.YtodjnafalbbmjaaP4
/- Plans for several inputs together: as data, and by the program. -/
namespace Go.Proofs.Ytodjnafalbbmjaa
open Go.RowKit

def tgI (n : Int) (l : List Int) (p : Nat) (x : List (Int × Int) × Int) : Nat → List (Int × Int) × Int
  | 0 => x
  | i + 1 => if bitB (l.getD i 0).toNat p then onS n (tgI n l p x i) (i : Int) else tgI n l p x i
def tgS (n : Int) (x : List (Int × Int) × Int) : List (Int × Int) × Int := if x.2 = -1 then x else muS n x x.2
def tgP (n : Int) (l : List Int) (L : Nat) : Nat → List (Int × Int) × Int
  | 0 => ([], -1)
  | j + 1 => tgI n l (L - 1 - j) (tgS n (tgP n l L j)) l.length
theorem tgI_len (n : Int) (l : List Int) (p : Nat) (x : List (Int × Int) × Int) (k : Nat) : (tgI n l p x k).1.length ≤ x.1.length + k := by
  induction k with
  | zero => exact Nat.le_refl _
  | succ k ih =>
    unfold tgI
    split
    · have := onS_len n (tgI n l p x k) (k : Int); omega
    · omega
theorem tgS_len (n : Int) (x : List (Int × Int) × Int) : (tgS n x).1.length ≤ x.1.length + 1 := by
  unfold tgS muS
  split <;> simp
theorem tgP_len (n : Int) (l : List Int) (L : Nat) (hl : l.length ≤ 6) (j : Nat) : (tgP n l L j).1.length ≤ 7 * j := by
  induction j with
  | zero => simp [tgP]
  | succ j ih =>
    show (tgI n l (L - 1 - j) (tgS n (tgP n l L j)) l.length).1.length ≤ _
    have h1 := tgI_len n l (L - 1 - j) (tgS n (tgP n l L j)) l.length
    have h2 := tgS_len n (tgP n l L j)
    omega
/-- A value that is there, or none. -/
def vd (x : List (Int × Int) × Int) : Prop := x.2 = -1 ∨ 0 ≤ x.2
theorem vd_mu {n : Int} (hn : 0 ≤ n) (x : List (Int × Int) × Int) (b : Int) : vd (muS n x b) := .inr (by show 0 ≤ n + (x.1.length : Int); omega)
theorem vd_on {n b : Int} (hn : 0 ≤ n) (hb : 0 ≤ b) (x : List (Int × Int) × Int) : vd (onS n x b) := by
  unfold onS
  split
  · exact .inr hb
  · exact vd_mu hn x b
theorem vd_I {n : Int} (hn : 0 ≤ n) (l : List Int) (p : Nat) {x : List (Int × Int) × Int} (h : vd x) (k : Nat) : vd (tgI n l p x k) := by
  induction k with
  | zero => exact h
  | succ k ih =>
    unfold tgI
    split
    · exact vd_on hn (by omega) _
    · exact ih
theorem vd_S {n : Int} (hn : 0 ≤ n) {x : List (Int × Int) × Int} (h : vd x) : vd (tgS n x) := by
  unfold tgS
  split
  · exact h
  · exact vd_mu hn x _
theorem vd_P {n : Int} (hn : 0 ≤ n) (l : List Int) (L j : Nat) : vd (tgP n l L j) := by
  induction j with
  | zero => exact .inl rfl
  | succ j ih => exact vd_I hn l _ (vd_S hn ih) _

def togB (l : List Int) : Bool := inB l.length 1 6 && (allB l 0 1000000 && decide (grA l ≠ 0))
def togP (l : List Int) : Pl := ⟨l.length, (tgP l.length l (bl (grA l)) (bl (grA l))).1, [(tgP l.length l (bl (grA l)) (bl (grA l))).2]⟩
def togR (l : List Int) : Pl := if togB l then mkR (togP l) else zeroP
def togG (l : List Int) : Bool := togB l && good (togP l)
theorem togB_of {l : List Int} (h1 : 1 ≤ l.length) (h6 : l.length ≤ 6) : togB l = (!(decide (mnA l < 0)) && isNum (mxA l)) := by
  obtain ⟨m1, m2⟩ := mnA_prop (l := l) (by omega)
  obtain ⟨x1, x2⟩ := mxA_prop (l := l) (by omega)
  obtain ⟨g0, g1, g2⟩ := grA_prop l
  have hb : ∀ b : Bool, togB l = b ↔ ((allB l 0 1000000 && decide (grA l ≠ 0)) = b) := fun b => by
    unfold togB inB
    rw [decide_eq_true (show (1 : Int) ≤ ((l.length : Nat) : Int) by omega), decide_eq_true (show ((l.length : Nat) : Int) ≤ 6 by omega)]
    simp
  rw [hb]
  rw [Bool.eq_iff_iff]
  unfold allB inB isNum inB
  simp only [Bool.and_eq_true, List.all_eq_true, decide_eq_true_eq, Bool.not_eq_true', decide_eq_false_iff_not, ne_eq]
  constructor
  · rintro ⟨ha, hg⟩
    have := ha _ m2
    have := ha _ x2
    have hgm : grA l ∈ l := by rcases g2 with h | h; exact absurd h hg; exact h
    have := x1 _ hgm
    omega
  · rintro ⟨hm, h1, h2⟩
    refine ⟨fun x hx => ?_, ?_⟩
    · have := m1 x hx
      have := x1 x hx
      omega
    · have := g1 _ x2
      omega
theorem togB_short {l : List Int} (h : l.length < 1) : togB l = false := by
  unfold togB inB
  rw [decide_eq_false (show ¬ (1 : Int) ≤ ((l.length : Nat) : Int) by omega)]
  rfl
theorem togB_long {l : List Int} (h : 6 < l.length) : togB l = false := by
  unfold togB inB
  rw [decide_eq_false (show ¬ ((l.length : Nat) : Int) ≤ 6 by omega)]
  simp
theorem tog_gr {l : List Int} (h1 : 1 ≤ l.length) (h : isNum (mxA l) = true) : grA l = mxA l := by
  obtain ⟨x1, x2⟩ := mxA_prop (l := l) (by omega)
  obtain ⟨g0, g1, g2⟩ := grA_prop l
  have := isNum_rng h
  have := g1 _ x2
  rcases g2 with h | h
  · omega
  · have := x1 _ h
    omega
theorem tog_len (l : List Int) : (togR l).s.length ≤ 1000 ∧ (togR l).o.length ≤ 1000 := by
  unfold togR
  split
  · rename_i h
    have h6 : l.length ≤ 6 := by
      rcases Nat.lt_or_ge 6 l.length with h' | h'
      · rw [togB_long h'] at h; cases h
      · exact h'
    have hg : grA l ≤ 1000000 := by
      obtain ⟨g0, g1, g2⟩ := grA_prop l
      rcases g2 with h' | h'
      · omega
      · unfold togB allB inB at h
        simp only [Bool.and_eq_true, List.all_eq_true, decide_eq_true_eq] at h
        exact (h.2.1 _ h').2
    have hb : bl (grA l) ≤ 20 := bl_bd (by have := (grA_prop l).1; omega)
    refine mkR_len _ ?_ (by simp [togP])
    have := tgP_len l.length l (bl (grA l)) h6 (bl (grA l))
    show (tgP _ _ _ _).1.length ≤ 1000
    omega
  · exact ⟨by simp [zeroP], by simp [zeroP]⟩
end Go.Proofs.Ytodjnafalbbmjaa
/- Plans for several inputs together, by the program. -/
namespace Go.Proofs.Ytodjnafalbbmjaa
open Go.RowKit

theorem mk_new {w w1 : World} {n : Int} {B : Nat} (h : w.alloc (.cells #[.int .i64 n, .slice none 0 0] 109) = w1) :
    MkS w1 B w.heap.size n [] ∧ Below w.heap.size w w1 := by
  subst h
  exact ⟨⟨none, 0, heap_alloc_new w _, World.ownsRow_nil _ _ _ _⟩, (Below.refl _ _).alloc (Nat.le_refl _) _⟩
theorem one_row' {w : World} {B : Nat} (x : Int) (hB : B ≤ w.heap.size) : (w.alloc (.cells #[.int .i64 x] 3)).ownsRow B 3 1 (.slice (some ⟨w.heap.size, 0, none⟩) 1 1) 1 [I x] :=
  World.ownsRow_lit (base := B) (e := 3) (size := 1) w #[.int .i64 x] 1 hB (by unfold maxLen; omega) (by simp)
theorem one_row (w : World) (x : Int) : OwI (w.alloc (.cells #[.int .i64 x] 3)) w.heap.size (.slice (some ⟨w.heap.size, 0, none⟩) [x].length 1) [x] := one_row' x (Nat.le_refl _)
theorem one_new {w w1 : World} {v : Int} (h : w.alloc (.cells #[.int .i64 v] 3) = w1) : OwI w1 w.heap.size (.slice (some ⟨w.heap.size, 0, none⟩) [v].length 1) [v] ∧ Below w.heap.size w w1 := by
  subst h
  exact ⟨one_row w v, (Below.refl _ _).alloc (Nat.le_refl _) _⟩
theorem zero_box {w w1 : World} (h : w.alloc (.cells #[.int .i64 0, .slice none 0 0, .slice none 0 0] 33) = w1) :
    w1.heap[w.heap.size]? = some (.cells #[.int .i64 0, .slice none 0 0, .slice none 0 0] 33 (0, 0)) ∧ w1.heap.size = w.heap.size + 1 ∧ Below w.heap.size w w1 := by
  subst h
  exact ⟨heap_alloc_new w _, by simp, (Below.refl _ _).alloc (Nat.le_refl _) _⟩

end Go.Proofs.Ytodjnafalbbmjaa
/- Plans for several inputs together, by the model. -/
namespace Go.Proofs.Ytodjnafalbbmjaa
open Go.RowKit

/-- A local plan of the model at block g, without outputs. -/
def PkS (w : World) (B g : Nat) (n : Int) (s : List (Int × Int)) : Prop :=
  ∃ A c, w.heap[g]? = some (.cells #[.int .i64 n, .slice A s.length c, .slice none 0 0] 33 (0, 0)) ∧ OwS w B (.slice A s.length c) s
theorem PkS.below {w w' : World} {B g : Nat} {n : Int} {s : List (Int × Int)} (h : PkS w B g n s) (hb : Below w.heap.size w w') : PkS w' B g n s := by
  obtain ⟨A, c, h1, h2⟩ := h
  exact ⟨A, c, (hb.block g (Array.getElem?_eq_some_iff.1 h1).1).trans h1, own_below h2 hb⟩
theorem pk_new {w w1 : World} {n : Int} {B : Nat} (h : w.alloc (.cells #[.int .i64 n, .slice none 0 0, .slice none 0 0] 33) = w1) :
    PkS w1 B w.heap.size n [] ∧ Below w.heap.size w w1 := by
  subst h
  exact ⟨⟨none, 0, heap_alloc_new w _, World.ownsRow_nil _ _ _ _⟩, (Below.refl _ _).alloc (Nat.le_refl _) _⟩
/-- The new plan is stored. -/
theorem pk_set {w w' : World} {B g : Nat} {n : Int} {s : List (Int × Int)} {A : Option Addr} {c k : Nat} {cs : Array Value} {u0 u1 u2 : Value} (hk : s.length = k) (h : w.heap[g]? = some (.cells #[u0, u1, u2] 33 (0, 0))) (ho : OwS w B (.slice A k c) s)
    (e : ((w.setCell ⟨g, 0, none⟩ (.int .i64 n)).setCell ⟨g, 1, none⟩ (.slice A k c)).setCell ⟨g, 2, none⟩ (.slice none 0 0) = w') (_ : cs = #[u0, u1, u2] := by rfl) : PkS w' B g n s := by
  subst hk
  refine ⟨A, c, mt_set3 h e, ?_⟩
  subst e
  exact own_set3 ho h (by decide) _ _ _

theorem me_box {w w2 : World} {o1 : Obj} {a b c : Value} {t : TypeId} (h : (w.alloc o1).alloc (.cells #[a, b, c] t) = w2) : w2.heap[w.heap.size + 1]? = some (.cells #[a, b, c] t (0, 0)) ∧ w2.heap.size = w.heap.size + 1 + 1 ∧ Below w.heap.size w w2 := by
  subst h
  refine ⟨?_, by simp, ((Below.refl _ _).alloc (Nat.le_refl _) _).alloc (by simp) _⟩
  have := heap_alloc_new (w.alloc o1) (.cells #[a, b, c] t)
  simpa using this
set_option maxHeartbeats 1000000 in
theorem meEnd_any (B : Nat) (A1 A2 : Option Addr) (c1 n2 c2 : Nat) (n v : Int) (s : List (Int × Int)) (w : World) (_hB : B ≤ w.heap.size) (ho : OwS w B (.slice A1 s.length c1) s) :
    Calls Try.prog 63 #[.agg #[.int .i64 n, .slice A1 s.length c1, .slice A2 n2 c2], .int .i64 v] w fun e w' =>
      ∃ A', e = .returned (.agg #[.int .i64 n, .slice A1 s.length c1, .slice A' 1 1]) ∧ OwS w' B (.slice A1 s.length c1) s ∧ OwI w' w.heap.size (.slice A' 1 1) [v] ∧ Below w.heap.size w w' := by
  have HO := Lib.hid ho
  clear ho
  go_enter Try.func63, Try.ntmps63
  go_wp2
  generalize hw1 : World.alloc (World.alloc w _) _ = w1
  obtain ⟨r0, xs, xb⟩ := me_box hw1
  clear hw1
  generalize hw2 : World.alloc w1 _ = w2
  obtain ⟨hv, hb⟩ := one_new hw2
  rw [xs] at hv
  clear hw2
  obtain ⟨t0, t1, t2, _, _, _⟩ := cells3 ((hb.block (w.heap.size + 1) (by omega)).trans r0)
  refine bodyPost_ret (v := .agg #[.int .i64 n, .slice A1 s.length c1, .slice (some ⟨w.heap.size + 1 + 1, 0, none⟩) 1 1]) (by simp [results, Try.results63, go_sem, t0, t1, t2]) rfl ⟨some ⟨w.heap.size + 1 + 1, 0, none⟩, rfl, own_below (own_below HO.out xb) hb, ?_, xb.trans (hb.mono (by omega))⟩
  exact own_base hv (by omega)

/-- What is answered, of a plan or of none. -/
theorem selV_mk {p : Pl} {b : Bool} {A1 A2 : Option Addr} {c1 c2 : Nat} {g B C : Nat} {w w0 : World} (hb : good p = b) (ho : OwP w C A1 A2 c1 c2 p) (hC : B ≤ C) (hg : ∃ cs, w.heap[g]? = some (.cells cs 33 (0, 0))) (hbw : Below B w0 w) (hBg : B ≤ g) :
    ∃ R1 R2 v1 v2, selV b (.agg #[.int .i64 p.n, .slice A1 p.s.length c1, .slice A2 p.o.length c2]) (.agg #[.int .i64 0, .slice none 0 0, .slice none 0 0]) = .agg #[.int .i64 (mkR p).n, .slice R1 (mkR p).s.length v1, .slice R2 (mkR p).o.length v2] ∧
      OwP (((w.setCell ⟨g, 0, none⟩ (.int .i64 (mkR p).n)).setCell ⟨g, 1, none⟩ (.slice R1 (mkR p).s.length v1)).setCell ⟨g, 2, none⟩ (.slice R2 (mkR p).o.length v2)) B R1 R2 v1 v2 (mkR p) ∧
      Below B w0 (((w.setCell ⟨g, 0, none⟩ (.int .i64 (mkR p).n)).setCell ⟨g, 1, none⟩ (.slice R1 (mkR p).s.length v1)).setCell ⟨g, 2, none⟩ (.slice R2 (mkR p).o.length v2)) := by
  obtain ⟨cs, hg⟩ := hg
  cases b with
  | false =>
    rw [mkR_false hb]
    exact ⟨none, none, 0, 0, rfl, OwP.zero _ _, ((hbw.setCell hBg _).setCell hBg _).setCell hBg _⟩
  | true =>
    rw [mkR_true hb]
    exact ⟨A1, A2, c1, c2, rfl, owP_of3 (own_base ho.1 hC) (own_base ho.2 hC) hg (by decide) (by decide) rfl rfl _ _ _, ((hbw.setCell hBg _).setCell hBg _).setCell hBg _⟩
end Go.Proofs.Ytodjnafalbbmjaa
