/- Joined: Moa Or Sp Os Mob Moc Mod Moj Moe Mof Mog Moh Mok Rlr Mol Mom Mon Rrr. -/
import Derived.Test.YtbbjgcagkmlngaaPR0
import Derived.Test.YtbbjgcagkmlngaaPR2
import Derived.Test.YtbbjgcagkmlngaaPR1
import Derived.Test.YtbbjgcagkmlngaaPS0
/- Orders of residues; powers by squaring, as data. -/
namespace Go.Proofs.Ytbbjgcagkmlngaa
open Go.RowKit

/-- The least k in 1..n with P k, or 0. -/
def fstK (P : Nat → Bool) : Nat → Nat
  | 0 => 0
  | n + 1 => if fstK P n ≠ 0 then fstK P n else if P (n + 1) then n + 1 else 0
theorem fstK_none {P : Nat → Bool} : ∀ n, (∀ k, 1 ≤ k → k ≤ n → P k = false) → fstK P n = 0 := by
  intro n
  induction n with
  | zero => intro _; rfl
  | succ n ih =>
    intro h
    have h0 := ih (fun k h1 h2 => h k h1 (by omega))
    simp [fstK, h0, h (n + 1) (by omega) (by omega)]
theorem fstK_hit {P : Nat → Bool} {e : Nat} (he : 1 ≤ e) (hP : P e = true) (hno : ∀ k, 1 ≤ k → k < e → P k = false) : ∀ n, e ≤ n → fstK P n = e := by
  intro n
  induction n with
  | zero => intro h; omega
  | succ n ih =>
    intro h
    rcases Nat.lt_or_ge n e with h1 | h1
    · have e1 : e = n + 1 := by omega
      subst e1
      have h0 := fstK_none (P := P) n (fun k h1 h2 => hno k h1 (by omega))
      simp [fstK, h0, hP]
    · have h0 := ih h1
      simp only [fstK, h0]
      rw [if_pos (by omega)]

/-- The power e of x modulo m. -/
def pwm (m x e : Nat) : Nat := x ^ e % m
theorem pw_succ (m x e : Nat) : pwm m x (e + 1) = pwm m x e * x % m := by
  unfold pwm
  rw [Nat.pow_succ, Nat.mod_mul_mod]
theorem pw_one {m x : Nat} (h : x < m) : pwm m x 1 = x := by unfold pwm; rw [Nat.pow_one, Nat.mod_eq_of_lt h]
theorem pw_zero {m : Nat} (x : Nat) (h : 2 ≤ m) : pwm m x 0 = 1 := by unfold pwm; rw [Nat.pow_zero]; exact Nat.mod_eq_of_lt (by omega)
theorem pw_lt {m : Nat} (x e : Nat) (h : 0 < m) : pwm m x e < m := Nat.mod_lt _ h
theorem pw_add (m x a b : Nat) : pwm m x (a + b) = pwm m x a * pwm m x b % m := by
  unfold pwm
  rw [Nat.pow_add, Nat.mul_mod]
/-- The least order of a residue, or 0. -/
def ordN (m x : Nat) : Nat := fstK (fun e => pwm m x e == 1) (m - 1)

theorem pigN : ∀ (m : Nat) (l : List Nat), l.Nodup → (∀ x ∈ l, x < m) → l.length ≤ m := by
  intro m
  induction m with
  | zero =>
    intro l _ h
    cases l with
    | nil => simp
    | cons x l => have := h x (by simp); omega
  | succ m ih =>
    intro l hn h
    by_cases hm : m ∈ l
    · have h1 := ih (l.erase m) (hn.erase _) (fun x hx => by
        obtain ⟨h2, h3⟩ := (hn.mem_erase_iff).1 hx
        have := h x h3
        omega)
      rw [List.length_erase_of_mem hm] at h1
      omega
    · have h1 := ih l hn (fun x hx => by
        have h2 := h x hx
        have h3 : x ≠ m := fun e => hm (e ▸ hx)
        omega)
      omega
/-- Of n + 1 numbers below n two are the same. -/
theorem pig_two {n : Nat} (f : Nat → Nat) (h : ∀ i, i ≤ n → f i < n) : ∃ i j, i < j ∧ j ≤ n ∧ f i = f j := by
  apply Classical.byContradiction
  intro hno
  have h1 := pigN n ((List.range (n + 1)).map f) (by
    rw [List.nodup_iff_pairwise_ne, List.pairwise_iff_getElem]
    intro i j hi hj hij
    simp only [List.length_map, List.length_range] at hi hj
    simp only [List.getElem_map, List.getElem_range]
    intro he
    exact hno ⟨i, j, hij, by omega, he⟩) (by
    intro x hx
    obtain ⟨i, hi, rfl⟩ := List.mem_map.1 hx
    exact h i (by have := List.mem_range.1 hi; omega))
  simp at h1
  omega
/-- A power m that is 1 is none that is the first one. -/
theorem pw_first {m x : Nat} (hm : 2 ≤ m) (h : pwm m x m = 1) : ∃ e, 1 ≤ e ∧ e < m ∧ pwm m x e = 1 := by
  have hnz : ∀ k, k ≤ m → pwm m x k ≠ 0 := fun k hk h0 => by
    have := pw_add m x k (m - k)
    rw [show k + (m - k) = m by omega, h, h0] at this
    simp at this
  obtain ⟨i, j, hij, hj, he⟩ := pig_two (n := m - 1) (fun i => pwm m x (i + 1) - 1) (fun i hi => by
    have h1 := hnz (i + 1) (by omega)
    have h2 := pw_lt (m := m) x (i + 1) (by omega)
    omega)
  have h1 := hnz (i + 1) (by omega)
  have h2 := hnz (j + 1) (by omega)
  have h3 : pwm m x (i + 1) = pwm m x (j + 1) := by omega
  refine ⟨j - i, by omega, by omega, ?_⟩
  have h4 := pw_add m x (i + 1) (m - (i + 1))
  have h5 := pw_add m x (j + 1) (m - (i + 1))
  rw [h3, ← h5, show i + 1 + (m - (i + 1)) = m by omega, show j + 1 + (m - (i + 1)) = m + (j - i) by omega, pw_add, h] at h4
  rw [Nat.one_mul, Nat.mod_eq_of_lt (pw_lt x (j - i) (by omega))] at h4
  exact h4.symm
theorem ordN_none {m x : Nat} (hm : 2 ≤ m) (h : ∀ e, 1 ≤ e → e < m → pwm m x e ≠ 1) : ordN m x = 0 ∧ pwm m x m ≠ 1 :=
  ⟨fstK_none _ fun k h1 h2 => by simpa using h k h1 (by omega), fun hm1 => by
    obtain ⟨e, h1, h2, h3⟩ := pw_first hm hm1
    exact h e h1 h2 h3⟩
theorem ordN_hit {m x e : Nat} (h1 : 1 ≤ e) (h2 : e < m) (h : pwm m x e = 1) (hno : ∀ k, 1 ≤ k → k < e → pwm m x k ≠ 1) : ordN m x = e :=
  fstK_hit (P := fun e => pwm m x e == 1) h1 (by simpa using h) (fun k a b => by simpa using hno k a b) _ (by omega)

/-- The loop that multiplies by a power: first, then v as often as e says. -/
def pwr {α : Type} (mul : α → α → α) : Nat → Nat → α → α → α
  | 0, _, p, _ => p
  | f + 1, e, p, v => if e = 0 then p else pwr mul f (e / 2) (if e % 2 = 1 then mul p v else p) (mul v v)
theorem pwL_zero {α : Type} (mul : α → α → α) (f : Nat) (p v : α) : pwr mul f 0 p v = p := by cases f <;> simp [pwr]
theorem pwL_odd {α : Type} (mul : α → α → α) (f e : Nat) (p v : α) (h : e % 2 = 1) : pwr mul (f + 1) e p v = pwr mul f (e / 2) (mul p v) (mul v v) := by
  rw [pwr, if_neg (by omega), if_pos h]
theorem pwL_even {α : Type} (mul : α → α → α) (f e : Nat) (p v : α) (h0 : 0 < e) (h : e % 2 = 0) : pwr mul (f + 1) e p v = pwr mul f (e / 2) p (mul v v) := by
  rw [pwr, if_neg (by omega), if_neg (by omega)]
theorem half_lt {e f : Nat} (h : e < 2 ^ (f + 1)) : e / 2 < 2 ^ f := by rw [Nat.pow_succ] at h; omega

def mulM (m a b : Nat) : Nat := a * b % m
theorem pwL_closed (m : Nat) : ∀ (f e p v : Nat), e < 2 ^ f → p < m → pwr (mulM m) f e p v = p * v ^ e % m := by
  intro f
  induction f with
  | zero =>
    intro e p v he hp
    have h0 : e = 0 := by simpa using he
    subst h0
    simp [pwr, Nat.mod_eq_of_lt hp]
  | succ f ih =>
    intro e p v he hp
    have hm : 0 < m := by omega
    rcases Nat.eq_zero_or_pos e with rfl | h0
    · simp [pwr, Nat.mod_eq_of_lt hp]
    · have hh := half_lt he
      have hv : (mulM m v v) ^ (e / 2) % m = v ^ (2 * (e / 2)) % m := by
        unfold mulM
        rw [← Nat.pow_mod, Nat.pow_mul, Nat.pow_two]
      have h2 := Nat.mod_lt e (show 2 > 0 by omega)
      by_cases ho : e % 2 = 1
      · have hpv : mulM m p v < m := Nat.mod_lt _ hm
        rw [pwL_odd _ _ _ _ _ ho, ih _ _ _ hh hpv, Nat.mul_mod, hv]
        unfold mulM
        rw [Nat.mod_mod, ← Nat.mul_mod, Nat.mul_assoc, Nat.mul_comm v, ← Nat.pow_succ, show (2 * (e / 2)).succ = e by omega]
      · rw [pwL_even _ _ _ _ _ h0 (by omega), ih _ _ _ hh hp, Nat.mul_mod, hv, ← Nat.mul_mod, show 2 * (e / 2) = e by omega]
theorem pwL_one {m : Nat} (hm : 2 ≤ m) {f e v p : Nat} (he : e < 2 ^ f) (hp : p < m) : pwr (mulM m) f e p v = p * pwr (mulM m) f e (1 % m) v % m := by
  rw [pwL_closed m f e p v he hp, pwL_closed m f e _ v he (Nat.mod_lt _ (by omega)), Nat.mul_mod_mod, Nat.mod_eq_of_lt (show 1 < m by omega), Nat.one_mul]
end Go.Proofs.Ytbbjgcagkmlngaa
/- Orders of steps: what they are; the model's. -/
namespace Go.Proofs.Ytbbjgcagkmlngaa
open Go.RowKit

def ordAt (N : Nat) (p : Pl) (l : List Int) (i : Nat) : Bool := inB (l.getD i 0) 0 ((p.s.length : Int) - 1) && (!hasI (l.take i) (l.getD i 0) && (nmOk N (l.take i) (stepAt p l i).1 && nmOk N (l.take i) (stepAt p l i).2))
def ordK (N : Nat) (p : Pl) (l : List Int) (k : Nat) : Bool := (List.range k).all (ordAt N p l)
def ordB (N : Nat) (p : Pl) (l : List Int) : Bool := decide (l.length = p.s.length) && ordK N p l l.length
theorem ordK_succ (N : Nat) (p : Pl) (l : List Int) (k : Nat) : ordK N p l (k + 1) = (ordK N p l k && ordAt N p l k) := by
  unfold ordK
  rw [List.range_succ, List.all_append]
  simp
theorem ordB_bad {N : Nat} {p : Pl} {l : List Int} {k : Nat} (hk : k < l.length) (h : ordAt N p l k = false) : ordB N p l = false := by
  unfold ordB ordK
  rw [Bool.and_eq_false_iff]
  right
  rw [List.all_eq_false]
  exact ⟨k, by simpa using hk, by rw [h]; decide⟩
theorem rd_take {w : World} {B n k : Nat} {A : Option Addr} {xs : List Value} (h : Rd w B 1 A n xs) (hk : k ≤ n) : Rd w B 1 A k (xs.take k) := by
  have hl := h.1
  refine ⟨by simp; omega, fun hn => ?_⟩
  obtain ⟨b, off, e, hb, hc⟩ := h.2 (by omega)
  refine ⟨b, off, e, hb, fun j hj => ?_⟩
  rw [hc j (by omega), List.getElem?_take, if_pos (by omega)]

end Go.Proofs.Ytbbjgcagkmlngaa
/- Six exponents in an array. -/
namespace Go.Proofs.Ytbbjgcagkmlngaa
open Go.RowKit
theorem six_pad {N : Nat} {E : List (List Int)} (hE : OkR N E) (h6 : N ≤ 6) : Six (E.map (pad N)) := by
  intro r hr
  obtain ⟨r0, h0, rfl⟩ := List.mem_map.1 hr
  have := (hE r0 h0).1
  simp [pad]
  omega
theorem box4b {w w1 : World} {a b c d : Value} {t : TypeId} (h : w.alloc (.cells #[a, b, c, d] t) = w1) :
    w1.cell? ⟨w.heap.size, 0, none⟩ = some a ∧ w1.cell? ⟨w.heap.size, 1, none⟩ = some b ∧ w1.cell? ⟨w.heap.size, 2, none⟩ = some c ∧ w1.cell? ⟨w.heap.size, 3, none⟩ = some d ∧ w1.heap.size = w.heap.size + 1 ∧ Below w.heap.size w w1 := by
  subst h
  refine ⟨?_, ?_, ?_, ?_, by simp, (Below.refl _ _).alloc (Nat.le_refl _) _⟩ <;> (rw [World.cell?_alloc_at _ _ _ _ rfl]; rfl)
end Go.Proofs.Ytbbjgcagkmlngaa
/- ReorderSteps, of the model and of the program. -/
namespace Go.Proofs.Ytbbjgcagkmlngaa
open Go.RowKit

theorem pig : ∀ (m : Nat) (l : List Int), l.Nodup → (∀ x ∈ l, 0 ≤ x ∧ x < (m : Int)) → l.length ≤ m := by
  intro m
  induction m with
  | zero =>
    intro l _ h
    cases l with
    | nil => simp
    | cons x l => have := h x (by simp); omega
  | succ m ih =>
    intro l hn h
    by_cases hm : (m : Int) ∈ l
    · have h1 := ih (l.erase (m : Int)) (hn.erase _) (fun x hx => by
        obtain ⟨h2, h3⟩ := (hn.mem_erase_iff).1 hx
        have := h x h3
        omega)
      rw [List.length_erase_of_mem hm] at h1
      omega
    · have h1 := ih l hn (fun x hx => by
        have h2 := h x hx
        have h3 : x ≠ (m : Int) := fun e => hm (e ▸ hx)
        omega)
      omega
theorem pig_mem {m : Nat} {l : List Int} (hn : l.Nodup) (h : ∀ x ∈ l, 0 ≤ x ∧ x < (m : Int)) (hl : l.length = m) {x : Int} (h0 : 0 ≤ x) (h1 : x < m) : x ∈ l := by
  by_cases hx : x ∈ l
  · exact hx
  · exfalso
    have := pig m (x :: l) (List.nodup_cons.2 ⟨hx, hn⟩) (fun y hy => by
      rcases List.mem_cons.1 hy with rfl | hy
      · exact ⟨h0, h1⟩
      · exact h y hy)
    simp at this
    omega

def prmAt (m : Nat) (l : List Int) (i : Nat) : Bool := hasB (l.getD i 0) m && !hasI (l.take i) (l.getD i 0)
def prmK (m : Nat) (l : List Int) (k : Nat) : Bool := (List.range k).all (prmAt m l)
def prmB (m : Nat) (l : List Int) : Bool := decide (l.length = m) && prmK m l l.length
theorem prmK_succ (m : Nat) (l : List Int) (k : Nat) : prmK m l (k + 1) = (prmK m l k && prmAt m l k) := by
  unfold prmK
  rw [List.range_succ, List.all_append]
  simp
theorem prmB_bad {m : Nat} {l : List Int} {k : Nat} (hk : k < l.length) (h : prmAt m l k = false) : prmB m l = false := by
  unfold prmB prmK
  rw [Bool.and_eq_false_iff]
  right
  rw [List.all_eq_false]
  exact ⟨k, by simpa using hk, by rw [h]; decide⟩
theorem prm_facts {m : Nat} {l : List Int} (h : prmB m l = true) : l.length = m ∧ l.Nodup ∧ ∀ x ∈ l, 0 ≤ x ∧ x < (m : Int) := by
  unfold prmB prmK at h
  rw [Bool.and_eq_true, decide_eq_true_eq, List.all_eq_true] at h
  obtain ⟨h1, h2⟩ := h
  have key : ∀ i (hi : i < l.length), (0 ≤ l[i] ∧ l[i] < (m : Int)) ∧ hasI (l.take i) l[i] = false := fun i hi => by
    have h3 := h2 i (by simpa using hi)
    have e : l.getD i 0 = l[i] := by simp [hi]
    unfold prmAt at h3
    rw [e, Bool.and_eq_true] at h3
    refine ⟨by simpa [hasB] using h3.1, by simpa using h3.2⟩
  refine ⟨h1, ?_, fun x hx => ?_⟩
  · rw [List.nodup_iff_pairwise_ne, List.pairwise_iff_getElem]
    intro i j hi hj hij he
    have h3 := (key j hj).2
    unfold hasI at h3
    simp only [List.contains_eq_mem, decide_eq_false_iff_not] at h3
    refine h3 (List.mem_iff_getElem.2 ⟨i, by simp; omega, ?_⟩)
    rw [List.getElem_take]
    exact he
  · obtain ⟨i, hi, rfl⟩ := List.mem_iff_getElem.1 hx
    exact (key i hi).1
theorem ord_split (N : Nat) (p : Pl) (l : List Int) : ordB N p l = (prmB p.s.length l && kOk N p l l.length) := by
  unfold ordB prmB ordK prmK kOk
  rw [Bool.and_assoc]
  congr 1
  rw [Bool.eq_iff_iff, Bool.and_eq_true, List.all_eq_true, List.all_eq_true, List.all_eq_true]
  have hb : ∀ x : Int, inB x 0 ((p.s.length : Int) - 1) = hasB x p.s.length := fun x => by
    rw [Bool.eq_iff_iff]
    simp only [inB, hasB, Bool.and_eq_true, decide_eq_true_eq]
    omega
  constructor
  · intro h
    refine ⟨fun i hi => ?_, fun i hi => ?_⟩
    · have := h i hi
      unfold ordAt at this
      rw [Bool.and_eq_true, Bool.and_eq_true, hb] at this
      unfold prmAt
      rw [this.1, this.2.1]
      rfl
    · have := h i hi
      unfold ordAt at this
      rw [Bool.and_eq_true, Bool.and_eq_true] at this
      exact this.2.2
  · intro h i hi
    have h1 := h.1 i hi
    have h2 := h.2 i hi
    unfold prmAt at h1
    rw [Bool.and_eq_true] at h1
    unfold ordAt
    rw [hb, h1.1, h1.2, h2]
    rfl

theorem info_boolB : (Try.prog.info? 4).map (fun i => (i.zero, i.size, i.bytes)) = some (some (.bool false), 1, 1) := by kernel_rfl
def boolsB (l : List Int) (R : Nat) : List Value := (List.range R).map fun v : Nat => Value.bool (hasI l (v : Int))
theorem boolsB_length (l : List Int) (R : Nat) : (boolsB l R).length = R := by simp [boolsB]
theorem boolsB_nil (R : Nat) : boolsB [] R = List.replicate R (.bool false) := by
  apply List.ext_getElem?
  intro j
  by_cases hj : j < R <;> simp [boolsB, hj, hasI]
theorem boolsB_set (l : List Int) {R a : Nat} (ha : a < R) : (boolsB l R).set a (.bool true) = boolsB (l ++ [(a : Int)]) R := by
  apply List.ext_getElem?
  intro j
  by_cases hj : j < R
  · by_cases hja : a = j
    · subst hja
      rw [List.getElem?_set_self (by rw [boolsB_length]; exact ha)]
      simp [boolsB, ha, hasI]
    · rw [List.getElem?_set_ne hja]
      have : ¬ (j : Int) = (a : Int) := by omega
      simp [boolsB, hj, hasI, this]
  · rw [List.getElem?_eq_none (by simp [boolsB]; omega), List.getElem?_eq_none (by simp [boolsB]; omega)]
theorem boolsB_at (l : List Int) {R a : Nat} (ha : a < R) : (boolsB l R)[a]? = some (.bool (hasI l (a : Int))) := by simp [boolsB, ha]
theorem boolsB_own {w : World} {B : Nat} (n : Nat) (hn : n ≤ 1000) (hB : B ≤ w.heap.size) :
    (w.alloc (.cells (madeCells #[Value.bool false] n) 4)).ownsRow B 4 1 (.slice (some ⟨w.heap.size, 0, none⟩) n n) n (boolsB [] n) := by
  have h := World.ownsRow_lit (base := B) (e := 4) (size := 1) w (madeCells #[Value.bool false] n) n hB (by unfold maxLen; omega) (by simp [size_madeCells])
  rw [toList_madeCells_one] at h
  rw [boolsB_nil]
  exact h

set_option maxRecDepth 100000 in
set_option maxHeartbeats 2000000 in
theorem isOrderOf_any (B m : Nat) (AL : Option Addr) (cl : Nat) (l : List Int) (w : World) (hm : m ≤ 1000) (hll : l.length ≤ 1048576) (hB : B ≤ w.heap.size) (hrl : Rd w B 1 AL l.length (l.map I)) :
    Calls Try.prog 97 #[.slice AL l.length cl, .int .i64 (m : Int)] w fun e w' => e = .returned (.bool (prmB m l)) ∧ Below w.heap.size w w' := by
  have HL := Lib.hid hrl
  clear hrl
  by_cases hlen : l.length = m
  case neg =>
    have hb : prmB m l = false := by simp [prmB, hlen]
    have HBF := Lib.hid hb
    have hne : ((l.length : Int) != (m : Int)) = true := by rw [bne_iff_ne]; omega
    clear hb hlen
    go_enter Try.func97, Try.ntmps97
    go_wp2
    go_ret
    exact ⟨ret_bool HBF.out.symm, Below.refl _ _⟩
  case pos =>
  have hne : ((l.length : Int) != (m : Int)) = false := by simp [hlen]
  have HLEN := Lib.hid hlen
  have hmk := run_make_row' (P := Try.prog) 147 4 (.bool false) 1 Try.underlying147 info_boolB rfl .i64 .i64 m (by omega) (by omega)
  clear hlen
  go_enter Try.func97, Try.ntmps97
  go_wp2
  clear hmk
  generalize hw2 : World.alloc w _ = w2
  have hmade : w2.ownsRow w.heap.size 4 1 (.slice (some ⟨w.heap.size, 0, none⟩) m m) m (boolsB [] m) := by rw [← hw2]; exact boolsB_own m hm (Nat.le_refl _)
  have hb2 : Below w.heap.size w w2 := by rw [← hw2]; exact (Below.refl _ _).alloc (Nat.le_refl _) _
  clear hw2
  have HM := Lib.hid hmade
  have HB2 := Lib.hid hb2
  clear hmade hb2
  go_loopw [16] (fun iv wr => ∃ k : Nat, k ≤ l.length ∧ iv = .int .i64 k ∧ prmK m l k = true ∧ wr.ownsRow w.heap.size 4 1 (.slice (some ⟨w.heap.size, 0, none⟩) m m) m (boolsB (l.take k) m) ∧ Below w.heap.size w wr) (fun i _ => l.length - (intOf i).toNat)
  case atStart => exact ⟨0, by omega, rfl, rfl, HM.out, HB2.out⟩
  case round =>
    obtain ⟨k, hk, rfl, hq, hown, hbel⟩ := hrel
    have Q := Lib.hid hq
    have OWN := Lib.hid hown
    have BEL := Lib.hid hbel
    by_cases hlt : k < l.length
    · obtain ⟨lb, lo, rfl, hlb, hlc⟩ := (HL.out.below' hbel hB).int hlt
      obtain ⟨x, hx⟩ : ∃ x, l[k] = x := ⟨_, rfl⟩
      rw [hx] at hlc
      have hget : l.getD k 0 = x := by simp [hlt, hx]
      have HX := Lib.hid hx
      have HGET := Lib.hid hget
      clear hq hown hbel hx hget
      by_cases h0 : x < 0
      · have hb : prmB m l = false := prmB_bad hlt (by
          unfold prmAt hasB
          rw [HGET.out]
          have : ¬ 0 ≤ x := by omega
          simp [this])
        have HBF := Lib.hid hb
        clear hb
        go_wp2
        go_ret
        exact ⟨ret_bool HBF.out.symm, BEL.out⟩
      · by_cases h1 : (m : Int) ≤ x
        · have hb : prmB m l = false := prmB_bad hlt (by
            unfold prmAt hasB
            rw [HGET.out]
            have : ¬ x < (m : Int) := by omega
            simp [this])
          have HBF := Lib.hid hb
          clear hb
          go_wp2
          go_ret
          exact ⟨ret_bool HBF.out.symm, BEL.out⟩
        · obtain ⟨n, rfl⟩ : ∃ n : Nat, x = n := ⟨x.toNat, by omega⟩
          have hnm : n < m := by omega
          have inm : (n : Int) < (m : Int) := by omega
          have hc : wr.cell? ⟨w.heap.size, n, none⟩ = some (.bool (hasI (l.take k) (n : Int))) := by rw [OWN.out.cellAt _ (by omega)]; exact boolsB_at _ hnm
          have hf : wr.frozen? ⟨w.heap.size, n, none⟩ = false := OWN.out.frozenAt _
          have hnn : ¬ m ≤ n := by omega
          cases hh : hasI (l.take k) (n : Int) with
          | true =>
            rw [hh] at hc
            have hb : prmB m l = false := prmB_bad hlt (by
              unfold prmAt
              rw [HGET.out, hh]
              simp)
            have HBF := Lib.hid hb
            clear hb hh
            go_wp2
            go_ret
            exact ⟨ret_bool HBF.out.symm, BEL.out⟩
          | false =>
            rw [hh] at hc
            have hat : prmAt m l k = true := by
              unfold prmAt hasB
              rw [HGET.out, hh]
              simp [hnm]
            have HAT := Lib.hid hat
            clear hat hh
            go_wp2
            go_roundw
            case rel =>
              refine ⟨k + 1, by omega, by go_num, by rw [prmK_succ, Q.out, HAT.out]; rfl, ?_, BEL.out.setCell (Nat.le_refl _) _⟩
              have h := (OWN.out.stored n (.bool true)).1
              rw [boolsB_set _ hnm, ← HX.out, ← List.take_succ_eq_append_getElem hlt] at h
              exact h
            case measure => simp [intOf]; omega
    · have hk' : k = l.length := by omega
      rw [hk'] at hq
      have hb : prmB m l = true := by
        unfold prmB
        rw [hq, Bool.and_true]
        exact decide_eq_true HLEN.out
      have HBF := Lib.hid hb
      clear hb hq hk' hown hbel
      go_wp2
      go_ret
      exact ⟨ret_bool HBF.out.symm, BEL.out⟩
end Go.Proofs.Ytbbjgcagkmlngaa
/- Permutations as data. -/
namespace Go.Proofs.Ytbbjgcagkmlngaa
open Go.RowKit

/-- A list of as many numbers, each below their number. -/
def Pt (n : Nat) (l : List Int) : Prop := l.length = n ∧ ∀ x ∈ l, 0 ≤ x ∧ x < (n : Int)
/-- The product of two permutations. -/
def thn (a b : List Int) : List Int := a.map fun x => b.getD x.toNat 0
/-- Whether a list is a permutation. -/
def isPm (l : List Int) : Bool := decide (1 ≤ l.length) && (decide (l.length ≤ 8) && prmB l.length l)
theorem isPm_facts {l : List Int} (h : isPm l = true) : 1 ≤ l.length ∧ l.length ≤ 8 ∧ l.Nodup ∧ Pt l.length l := by
  unfold isPm at h
  simp only [Bool.and_eq_true, decide_eq_true_eq] at h
  obtain ⟨h1, h2, h3⟩ := h
  obtain ⟨_, h4, h5⟩ := prm_facts h3
  exact ⟨h1, h2, h4, rfl, h5⟩
theorem thn_len (a b : List Int) : (thn a b).length = a.length := by simp [thn]
theorem getD_mem6 {l : List Int} {i : Nat} (h : i < l.length) : l.getD i 0 ∈ l := by
  rw [List.getD_eq_getElem?_getD, List.getElem?_eq_getElem h]
  exact List.getElem_mem h
theorem Pt.at_ {n : Nat} {l : List Int} (h : Pt n l) {x : Int} (h0 : 0 ≤ x) (h1 : x < n) : 0 ≤ l.getD x.toNat 0 ∧ l.getD x.toNat 0 < (n : Int) :=
  h.2 _ (getD_mem6 (by rw [h.1]; omega))
theorem Pt.thn {n : Nat} {a b : List Int} (ha : Pt n a) (hb : Pt n b) : Pt n (thn a b) := by
  refine ⟨by rw [thn_len, ha.1], fun x hx => ?_⟩
  obtain ⟨y, hy, rfl⟩ := List.mem_map.1 hx
  obtain ⟨h0, h1⟩ := ha.2 y hy
  exact hb.at_ h0 h1
/-- Where a leads i in e steps. -/
def itf (a : List Int) : Nat → Int → Int
  | 0, i => i
  | e + 1, i => a.getD (itf a e i).toNat 0
theorem itf_rng {n : Nat} {a : List Int} (h : Pt n a) {x : Int} (h0 : 0 ≤ x) (h1 : x < n) : ∀ e, 0 ≤ itf a e x ∧ itf a e x < (n : Int) := by
  intro e
  induction e with
  | zero => exact ⟨h0, h1⟩
  | succ e ih => exact h.at_ ih.1 ih.2
theorem itf_add (a : List Int) (x : Int) (e : Nat) : ∀ k, itf a (e + k) x = itf a k (itf a e x) := by
  intro k
  induction k with
  | zero => rfl
  | succ k ih => show a.getD (itf a (e + k) x).toNat 0 = _; rw [ih]; rfl
theorem itf_first (a : List Int) (x : Int) (k : Nat) : itf a (k + 1) x = itf a k (a.getD x.toNat 0) := by
  rw [Nat.add_comm, itf_add]
  rfl
theorem thn_at {a b : List Int} {i : Nat} (h : i < a.length) : (thn a b).getD i 0 = b.getD (a.getD i 0).toNat 0 := by
  unfold thn
  simp [List.getD_eq_getElem?_getD, h]
theorem itf_two {n : Nat} {v : List Int} (hv : Pt n v) {x : Int} (h0 : 0 ≤ x) (h1 : x < n) : ∀ k, itf (thn v v) k x = itf v (2 * k) x := by
  intro k
  induction k with
  | zero => rfl
  | succ k ih =>
    obtain ⟨r0, r1⟩ := itf_rng hv h0 h1 (2 * k)
    show (thn v v).getD (itf (thn v v) k x).toNat 0 = v.getD (v.getD (itf v (2 * k) x).toNat 0).toNat 0
    rw [ih, thn_at (by rw [hv.1]; omega)]
theorem pwL_thn {n : Nat} : ∀ (f e : Nat) (p v : List Int), e < 2 ^ f → Pt n p → Pt n v → pwr thn f e p v = p.map (itf v e) := by
  intro f
  induction f with
  | zero =>
    intro e p v he _ _
    have h0 : e = 0 := by simpa using he
    subst h0
    show p = p.map fun x => x
    simp
  | succ f ih =>
    intro e p v he hp hv
    rcases Nat.eq_zero_or_pos e with rfl | h0
    · show p = p.map fun x => x
      simp
    · have hh := half_lt he
      have h2 := Nat.mod_lt e (show 2 > 0 by omega)
      by_cases ho : e % 2 = 1
      · rw [pwL_odd _ _ _ _ _ ho, ih _ _ _ hh (hp.thn hv) (hv.thn hv)]
        unfold thn
        rw [List.map_map]
        refine List.map_congr_left fun x hx => ?_
        obtain ⟨r0, r1⟩ := hp.2 x hx
        obtain ⟨q0, q1⟩ := hv.at_ r0 r1
        show itf (Go.Proofs.Ytbbjgcagkmlngaa.thn v v) (e / 2) (v.getD x.toNat 0) = _
        rw [itf_two hv q0 q1, ← itf_first, show 2 * (e / 2) + 1 = e by omega]
      · rw [pwL_even _ _ _ _ _ h0 (by omega), ih _ _ _ hh hp (hv.thn hv)]
        refine List.map_congr_left fun x hx => ?_
        obtain ⟨r0, r1⟩ := hp.2 x hx
        rw [itf_two hv r0 r1, show 2 * (e / 2) = e by omega]
theorem ups_pt (n : Nat) : Pt n (ups n) := by
  refine ⟨ups_length n, fun x hx => ?_⟩
  unfold ups at hx
  obtain ⟨i, hi, rfl⟩ := List.mem_map.1 hx
  have := List.mem_range.1 hi
  omega
/-- The power e of a permutation. -/
def itr (a : List Int) (e : Nat) : List Int := (ups a.length).map (itf a e)
theorem itr_len (a : List Int) (e : Nat) : (itr a e).length = a.length := by simp [itr, ups_length]
theorem itr_pt {n : Nat} {a : List Int} (h : Pt n a) (e : Nat) : Pt n (itr a e) := by
  refine ⟨by rw [itr_len, h.1], fun x hx => ?_⟩
  unfold itr at hx
  obtain ⟨y, hy, rfl⟩ := List.mem_map.1 hx
  obtain ⟨r0, r1⟩ := (ups_pt a.length).2 y hy
  rw [h.1] at r1
  exact itf_rng h r0 r1 e
theorem itr_zero (a : List Int) : itr a 0 = ups a.length := by
  show (ups a.length).map (fun x => x) = _
  simp
theorem itr_one (a : List Int) : itr a 1 = a := by
  apply List.ext_getElem (by rw [itr_len])
  intro i h1 h2
  unfold itr ups
  simp [itf, h2]
theorem itr_succ (a : List Int) (e : Nat) : thn (itr a e) a = itr a (e + 1) := by
  unfold thn itr
  rw [List.map_map]
  rfl
theorem pwL_itr {n : Nat} {a : List Int} (h : Pt n a) {f e : Nat} (he : e < 2 ^ f) : pwr thn f e (ups a.length) a = itr a e := by
  have h' : Pt a.length a := ⟨rfl, by rw [h.1]; exact h.2⟩
  exact pwL_thn f e _ a he (ups_pt _) h'

theorem getD_inj {l : List Int} (hn : l.Nodup) {i j : Nat} (hi : i < l.length) (hj : j < l.length) (h : l.getD i 0 = l.getD j 0) : i = j := by
  rw [List.getD_eq_getElem?_getD, List.getD_eq_getElem?_getD, List.getElem?_eq_getElem hi, List.getElem?_eq_getElem hj] at h
  simp only [Option.getD_some] at h
  apply Classical.byContradiction
  intro hne
  rw [List.nodup_iff_pairwise_ne, List.pairwise_iff_getElem] at hn
  rcases Nat.lt_or_ge i j with h1 | h1
  · exact hn i j hi hj h1 h
  · exact hn j i hj hi (by omega) h.symm
theorem itf_inj {n : Nat} {a : List Int} (h : Pt n a) (hn : a.Nodup) {x y : Int} (x0 : 0 ≤ x) (x1 : x < n) (y0 : 0 ≤ y) (y1 : y < n) : ∀ e, itf a e x = itf a e y → x = y := by
  intro e
  induction e with
  | zero => exact fun h => h
  | succ e ih =>
    intro he
    obtain ⟨r0, r1⟩ := itf_rng h x0 x1 e
    obtain ⟨q0, q1⟩ := itf_rng h y0 y1 e
    have hl := h.1
    have := getD_inj hn (by omega) (by omega) he
    exact ih (by omega)
/-- Each point comes back within as many steps as there are points. -/
theorem itf_back {n : Nat} {a : List Int} (h : Pt n a) (hn : a.Nodup) {x : Int} (x0 : 0 ≤ x) (x1 : x < n) : ∃ k, 1 ≤ k ∧ k ≤ n ∧ itf a k x = x := by
  obtain ⟨i, j, hij, hj, he⟩ := pig_two (n := n) (fun i => (itf a i x).toNat) (fun i _ => by
    obtain ⟨r0, r1⟩ := itf_rng h x0 x1 i
    omega)
  obtain ⟨r0, r1⟩ := itf_rng h x0 x1 i
  obtain ⟨q0, q1⟩ := itf_rng h x0 x1 j
  obtain ⟨s0, s1⟩ := itf_rng h x0 x1 (j - i)
  have e1 : itf a i x = itf a j x := by omega
  have e2 := itf_add a x (j - i) i
  rw [show j - i + i = j by omega, ← e1] at e2
  exact ⟨j - i, by omega, by omega, (itf_inj h hn x0 x1 s0 s1 i e2).symm⟩
theorem itf_mul {a : List Int} {x : Int} {k : Nat} (h : itf a k x = x) : ∀ t, itf a (k * t) x = x := by
  intro t
  induction t with
  | zero => rfl
  | succ t ih => rw [Nat.mul_succ, itf_add, ih, h]
theorem itr_840 {n : Nat} {a : List Int} (h : Pt n a) (hn : a.Nodup) (h8 : n ≤ 8) : itr a 840 = ups a.length := by
  unfold itr
  rw [show ups a.length = (ups a.length).map (fun x => x) by simp]
  rw [List.map_map]
  refine List.map_congr_left fun x hx => ?_
  obtain ⟨x0, x1⟩ := (ups_pt a.length).2 x hx
  rw [h.1] at x1
  obtain ⟨k, k1, k2, hk⟩ := itf_back h hn x0 x1
  obtain ⟨t, ht⟩ : ∃ t, 840 = k * t := by
    match k, k1, (show k ≤ 8 by omega) with
    | 1, _, _ => exact ⟨840, rfl⟩
    | 2, _, _ => exact ⟨420, rfl⟩
    | 3, _, _ => exact ⟨280, rfl⟩
    | 4, _, _ => exact ⟨210, rfl⟩
    | 5, _, _ => exact ⟨168, rfl⟩
    | 6, _, _ => exact ⟨140, rfl⟩
    | 7, _, _ => exact ⟨120, rfl⟩
    | 8, _, _ => exact ⟨105, rfl⟩
  show itf a 840 x = x
  rw [ht]
  exact itf_mul hk t
/-- The least power that leads each point to itself. -/
def ordP (a : List Int) : Nat := fstK (fun e => itr a e == ups a.length) 840
theorem ordP_hit {a : List Int} {e : Nat} (h1 : 1 ≤ e) (h2 : e ≤ 840) (h : itr a e = ups a.length) (hno : ∀ k, 1 ≤ k → k < e → itr a k ≠ ups a.length) : ordP a = e :=
  fstK_hit (P := fun e => itr a e == ups a.length) h1 (by simpa using h) (fun k a b => by simpa using hno k a b) _ h2
theorem fstK_pos {P : Nat → Bool} {e : Nat} : ∀ n, 1 ≤ e → e ≤ n → P e = true → 1 ≤ fstK P n := by
  intro n
  induction n with
  | zero => intro _ _; omega
  | succ n ih =>
    intro h1 h2 h3
    simp only [fstK]
    split
    · omega
    · rename_i h4
      have h5 : fstK P n = 0 := by omega
      rcases Nat.lt_or_ge n e with h6 | h6
      · have : e = n + 1 := by omega
        subst this
        rw [h3]
        simp
      · have := ih h1 h6 h3
        omega
theorem fstK_le (P : Nat → Bool) : ∀ n, fstK P n ≤ n := by
  intro n
  induction n with
  | zero => exact Nat.le_refl _
  | succ n ih =>
    simp only [fstK]
    split
    · omega
    · split <;> omega
theorem fstK_is {P : Nat → Bool} : ∀ n, fstK P n ≠ 0 → P (fstK P n) = true := by
  intro n
  induction n with
  | zero => intro h; exact absurd rfl h
  | succ n ih =>
    intro h
    simp only [fstK] at h ⊢
    by_cases h1 : fstK P n ≠ 0
    · rw [if_pos h1]; exact ih h1
    · rw [if_neg h1] at h ⊢
      by_cases h2 : P (n + 1) = true
      · rw [if_pos h2]; exact h2
      · rw [if_neg h2] at h; exact absurd rfl h
theorem fstK_before {P : Nat → Bool} {k : Nat} : ∀ n, k < fstK P n → 1 ≤ k → P k = false := by
  intro n
  induction n with
  | zero => intro h; exact absurd h (by simp [fstK])
  | succ n ih =>
    intro h h1
    simp only [fstK] at h
    by_cases h2 : fstK P n ≠ 0
    · rw [if_pos h2] at h; exact ih h h1
    · rw [if_neg h2] at h
      cases hk : P k with
      | false => rfl
      | true =>
        split at h
        · have := fstK_pos n h1 (by omega) hk; omega
        · omega
theorem ordP_pos {n : Nat} {a : List Int} (h : Pt n a) (hn : a.Nodup) (h8 : n ≤ 8) : 1 ≤ ordP a ∧ ordP a ≤ 840 :=
  ⟨fstK_pos (e := 840) _ (by omega) (by omega) (by simpa using itr_840 h hn h8), fstK_le _ _⟩
theorem ordP_is {a : List Int} (h : 1 ≤ ordP a) : itr a (ordP a) = ups a.length := by
  have := fstK_is (P := fun e => itr a e == ups a.length) 840 (by unfold ordP at h; omega)
  unfold ordP
  simpa using this
theorem ordP_before {a : List Int} {k : Nat} (h : k < ordP a) (h1 : 1 ≤ k) : itr a k ≠ ups a.length := by
  have := fstK_before (P := fun e => itr a e == ups a.length) 840 h h1
  simpa using this

/-- Whether each number is at most the next one. -/
def srtB (l : List Int) : Bool := (List.range (l.length - 1)).all fun i => decide (l.getD i 0 ≤ l.getD (i + 1) 0)
theorem srt_ups {l : List Int} {n : Nat} (hp : Pt n l) (hn : l.Nodup) : srtB l = true ↔ l = ups l.length := by
  unfold srtB
  rw [List.all_eq_true]
  constructor
  · intro h
    have h1 : ∀ i, i + 1 < l.length → l.getD i 0 < l.getD (i + 1) 0 := fun i hi => by
      have h2 := h i (by simp; omega)
      simp only [decide_eq_true_eq] at h2
      have h3 : l.getD i 0 ≠ l.getD (i + 1) 0 := fun he => by
        have := getD_inj hn (by omega) hi he
        omega
      omega
    have h2 : ∀ i, i < l.length → (i : Int) ≤ l.getD i 0 := by
      intro i
      induction i with
      | zero => intro hi; exact (hp.2 _ (getD_mem6 hi)).1
      | succ i ih => intro hi; have := ih (by omega); have := h1 i hi; omega
    have h3 : ∀ k i, i + k + 1 = l.length → l.getD i 0 ≤ (i : Int) := by
      intro k
      induction k with
      | zero => intro i hi; have := (hp.2 _ (getD_mem6 (l := l) (i := i) (by omega))).2; have := hp.1; omega
      | succ k ih => intro i hi; have := ih (i + 1) (by omega); have := h1 i (by omega); omega
    apply List.ext_getElem (by rw [ups_length])
    intro i hi _
    have a1 := h2 i hi
    have a2 := h3 (l.length - 1 - i) i (by omega)
    have e : l.getD i 0 = l[i] := by simp [hi]
    simp only [ups, List.getElem_map, List.getElem_range]
    omega
  · intro h i hi
    simp at hi
    rw [h]
    have h4 : i < l.length := by omega
    have h5 : i + 1 < l.length := by omega
    simp [ups, List.getD_eq_getElem?_getD, h4, h5]
    omega
theorem itr_nodup {n : Nat} {a : List Int} (h : Pt n a) (hn : a.Nodup) (e : Nat) : (itr a e).Nodup := by
  unfold itr
  rw [List.nodup_iff_pairwise_ne, List.pairwise_iff_getElem]
  intro i j hi hj hij he
  simp only [List.length_map, ups_length] at hi hj
  simp only [List.getElem_map, ups, List.getElem_range] at he
  have hl := h.1
  have := itf_inj h hn (by omega) (by omega) (by omega) (by omega) e he
  omega
end Go.Proofs.Ytbbjgcagkmlngaa
/- Runs of plans over values of any kind, as data. -/
namespace Go.Proofs.Ytbbjgcagkmlngaa
open Go.RowKit

section
variable {α : Type}
/-- The product of a step. -/
def prd (mul : α → α → α) (z : α) (vs : List α) (s : Int × Int) : α := mul (vs.getD s.1.toNat z) (vs.getD s.2.toNat z)
/-- All values of a plan, or nothing if one is none. -/
def runG (has : α → Bool) (mul : α → α → α) (z : α) : List α → List (Int × Int) → Option (List α)
  | vs, [] => some vs
  | vs, s :: r => if has (prd mul z vs s) then runG has mul z (vs ++ [prd mul z vs s]) r else none
variable {has : α → Bool} {mul : α → α → α} {z : α}
theorem runG_good {vs : List α} {s : List (Int × Int)} {k : Nat} (hk : k < s.length) (h : has (prd mul z vs s[k]) = true) : runG has mul z vs (s.drop k) = runG has mul z (vs ++ [prd mul z vs s[k]]) (s.drop (k + 1)) := by
  rw [List.drop_eq_getElem_cons hk, runG, if_pos h]
theorem runG_bad {vs : List α} {s : List (Int × Int)} {k : Nat} (hk : k < s.length) (h : has (prd mul z vs s[k]) = false) : runG has mul z vs (s.drop k) = none := by
  rw [List.drop_eq_getElem_cons hk, runG, h]; rfl
theorem runG_end {vs : List α} {s : List (Int × Int)} {k : Nat} (hk : s.length ≤ k) : runG has mul z vs (s.drop k) = some vs := by
  rw [List.drop_eq_nil_of_le hk, runG]
/-- Where all products are values, nothing fails. -/
theorem runG_all {N : Nat} (hm : ∀ a b, has a = true → has b = true → has (mul a b) = true) : ∀ (s : List (Int × Int)) (vs : List α), vs.length = N → (∀ x ∈ vs, has x = true) → (∀ i (h : i < s.length), 0 ≤ (s[i]).1 ∧ (s[i]).1 ≤ (s[i]).2 ∧ (s[i]).2 < N + i) →
    ∃ V, runG has mul z vs s = some V ∧ V.length = N + s.length ∧ ∀ x ∈ V, has x = true := by
  intro s
  induction s generalizing N with
  | nil => intro vs hl hv _; exact ⟨vs, rfl, by simpa using hl, hv⟩
  | cons q r ih =>
    intro vs hl hv hs
    obtain ⟨h0, h1, h2⟩ := hs 0 (by simp)
    simp only [List.getElem_cons_zero] at h0 h1 h2
    have hin : ∀ x : Int, 0 ≤ x → x < N → has (vs.getD x.toNat z) = true := fun x a b => by
      have hx : x.toNat < vs.length := by omega
      rw [List.getD_eq_getElem?_getD, List.getElem?_eq_getElem hx]
      exact hv _ (List.getElem_mem hx)
    have hp : has (prd mul z vs q) = true := hm _ _ (hin _ h0 (by omega)) (hin _ (by omega) (by omega))
    obtain ⟨V, e, hV, hh⟩ := ih (N := N + 1) (vs ++ [prd mul z vs q]) (by simp [hl]) (by
      intro x hx
      rcases List.mem_append.1 hx with hx | hx
      · exact hv x hx
      · rw [List.mem_singleton.1 hx]; exact hp) (by
      intro i hi
      have := hs (i + 1) (by simpa using hi)
      simp only [List.getElem_cons_succ] at this
      refine ⟨this.1, this.2.1, ?_⟩
      have := this.2.2
      push_cast at this ⊢
      omega)
    refine ⟨V, by rw [runG, if_pos hp]; exact e, by rw [hV]; simp; omega, hh⟩
theorem runG_len {N : Nat} : ∀ (s : List (Int × Int)) (vs V : List α), vs.length = N → runG has mul z vs s = some V → V.length = N + s.length := by
  intro s
  induction s generalizing N with
  | nil => intro vs V hl h; rw [runG] at h; cases h; simpa using hl
  | cons q r ih =>
    intro vs V hl h
    rw [runG] at h
    split at h
    · have := ih (N := N + 1) _ _ (by simp [hl]) h
      rw [this]; simp; omega
    · cases h
/-- The values of the outputs. -/
def outs (z : α) (V : List α) (o : List Int) : List α := o.map fun x => V.getD x.toNat z
theorem outs_len (z : α) (V : List α) (o : List Int) : (outs z V o).length = o.length := by simp [outs]
end

def mulR (m : Nat) (a b : Int) : Int := a * b % (m : Int)
def inR (m : Int) (x : Int) : Bool := inB m 2 10000 && inB x 0 (m - 1)
theorem inR_rng {m x : Int} (h : inR m x = true) : 2 ≤ m ∧ m ≤ 10000 ∧ 0 ≤ x ∧ x < m := by
  unfold inR inB at h
  simp only [Bool.and_eq_true, decide_eq_true_eq] at h
  omega
theorem mulR_in {m : Nat} {a b : Int} (ha : inR m a = true) (_ : inR m b = true) : inR m (mulR m a b) = true := by
  obtain ⟨h1, h2, _, _⟩ := inR_rng ha
  have h3 := Int.emod_nonneg (a * b) (b := (m : Int)) (by omega)
  have h4 := Int.emod_lt_of_pos (a * b) (b := (m : Int)) (by omega)
  unfold inR inB mulR
  simp only [Bool.and_eq_true, decide_eq_true_eq]
  omega
theorem mulR_nat (m a b : Nat) : mulR m (a : Int) (b : Int) = ((mulM m a b : Nat) : Int) := by unfold mulR mulM; push_cast; rfl
theorem pwL_nat (m : Nat) : ∀ (f e a b : Nat), pwr (mulR m) f e (a : Int) (b : Int) = ((pwr (mulM m) f e a b : Nat) : Int) := by
  intro f
  induction f with
  | zero => intro e a b; rfl
  | succ f ih =>
    intro e a b
    rcases Nat.eq_zero_or_pos e with rfl | h0
    · rfl
    · have h2 := Nat.mod_lt e (show 2 > 0 by omega)
      by_cases ho : e % 2 = 1
      · rw [pwL_odd _ _ _ _ _ ho, pwL_odd _ _ _ _ _ ho, mulR_nat, mulR_nat, ih]
      · rw [pwL_even _ _ _ _ _ h0 (by omega), pwL_even _ _ _ _ _ h0 (by omega), mulR_nat, ih]
/-- Products of powers: the first k. -/
def pmK (m : Nat) (es xs : List Int) : Nat → Nat
  | 0 => 1
  | k + 1 => pwr (mulM m) 20 (es.getD k 0).toNat (pmK m es xs k) (xs.getD k 0).toNat
theorem pwL_lt {m : Nat} (hm : 0 < m) : ∀ (f e p v : Nat), p < m → pwr (mulM m) f e p v < m := by
  intro f
  induction f with
  | zero => intro e p v h; exact h
  | succ f ih =>
    intro e p v h
    rw [pwr]
    split
    · exact h
    · refine ih _ _ _ ?_
      split
      · exact Nat.mod_lt _ hm
      · exact h
theorem pmK_lt {m : Nat} (hm : 2 ≤ m) (es xs : List Int) : ∀ k, pmK m es xs k < m := by
  intro k
  induction k with
  | zero => show 1 < m; omega
  | succ k ih => exact pwL_lt (by omega) _ _ _ _ ih
end Go.Proofs.Ytbbjgcagkmlngaa
/- Residues: orders, of the model and of the program. -/
namespace Go.Proofs.Ytbbjgcagkmlngaa
open Go.RowKit

theorem nremI (a m : Nat) : ((a : Nat) : Int) % (m : Int) = ((a % m : Nat) : Int) := by push_cast; rfl
theorem tmodN (P m : Nat) : (P : Int).tmod (m : Int) = ((P % m : Nat) : Int) := by rw [Int.tmod_eq_emod_of_nonneg (Int.natCast_nonneg P)]; exact nremI P m
theorem inR_eq (m x : Int) : inR m x = (decide (2 ≤ m) && (decide (m ≤ 10000) && (decide (0 ≤ x) && decide (x < m)))) := by
  rw [Bool.eq_iff_iff]
  simp only [inR, inB, Bool.and_eq_true, decide_eq_true_eq]
  omega
set_option maxHeartbeats 1000000 in
theorem resHas_any (m x : Int) (w : World) : Calls Try.prog 177 #[.agg #[.int .i64 m], .int .i64 x] w fun e w' => e = .returned (.bool (inR m x)) ∧ Below w.heap.size w w' := by
  have hc : (¬ 2 ≤ m) ∨ (2 ≤ m ∧ ¬ m ≤ 10000) ∨ (2 ≤ m ∧ m ≤ 10000 ∧ ¬ 0 ≤ x) ∨ (2 ≤ m ∧ m ≤ 10000 ∧ 0 ≤ x ∧ ¬ x < m) ∨ (2 ≤ m ∧ m ≤ 10000 ∧ 0 ≤ x ∧ x < m) := by omega
  obtain ⟨b, hb⟩ : ∃ b, inR m x = b := ⟨_, rfl⟩
  have HB := Lib.hid hb
  rw [hb]
  clear hb
  rcases hc with h1 | ⟨h1, h2⟩ | ⟨h1, h2, h3⟩ | ⟨h1, h2, h3, h4⟩ | ⟨h1, h2, h3, h4⟩
  all_goals
    go_enter Try.func177, Try.ntmps177
    go_wp2
    go_ret
    exact ⟨ret_bool (by rw [← HB.out, inR_eq]; simp [*] <;> omega), (Below.refl _ _).alloc (Nat.le_refl _) _⟩
theorem mulM_lt {m a b : Nat} (h : 2 ≤ m) : mulM m a b < m := Nat.mod_lt _ (by omega)
theorem mulM_int (m a b : Nat) : ((mulM m a b : Nat) : Int) = (a : Int) * (b : Int) % (m : Int) := by unfold mulM; push_cast; rfl
theorem prod_le {m a b : Nat} (hm : m ≤ 10000) (ha : a < m) (hb : b < m) : a * b ≤ 100000000 := Nat.le_trans (Nat.mul_le_mul (show a ≤ 10000 by omega) (show b ≤ 10000 by omega)) (by omega)
theorem wrapN {P : Nat} (h : P ≤ 100000000) : IntKind.i64.wrap ((P : Nat) : Int) = ((P : Nat) : Int) := IntWalk.i64_in _ (by omega)
theorem wrapP {m a b : Nat} (hm : m ≤ 10000) (ha : a < m) (hb : b < m) : IntKind.i64.wrap ((a : Int) * (b : Int)) = ((a * b : Nat) : Int) := by
  rw [show (a : Int) * (b : Int) = ((a * b : Nat) : Int) by push_cast; rfl]
  exact wrapN (prod_le hm ha hb)
set_option maxHeartbeats 1000000 in
theorem resMul_any (m a b : Nat) (w : World) (h2 : 2 ≤ m) (hm : m ≤ 10000) (ha : a < m) (hb : b < m) :
    Calls Try.prog 178 #[.agg #[.int .i64 (m : Int)], .int .i64 (a : Int), .int .i64 (b : Int)] w fun e w' => e = .returned (.int .i64 ((mulM m a b : Nat) : Int)) ∧ Below w.heap.size w w' := by
  have hp := prod_le hm ha hb
  have E := Lib.hid (mulM_int m a b)
  have e1 : (a : Int) * (b : Int) = ((a * b : Nat) : Int) := by push_cast; rfl
  rw [e1] at E
  have hw : wrap64 ((a : Int) * (b : Int)) = ((a * b : Nat) : Int) := by rw [e1]; unfold wrap64; omega
  have hm0 : ((m : Int) == 0) = false := by simp; omega
  obtain ⟨P, hP⟩ : ∃ P, a * b = P := ⟨_, rfl⟩
  rw [hP] at hw hp E
  clear hP e1
  go_enter Try.func178, Try.ntmps178
  go_wp2
  go_ret
  exact ⟨by rw [E.out]; rfl, (Below.refl _ _).alloc (Nat.le_refl _) _⟩

theorem moModulus_any (m : Int) (w : World) : Calls Try.prog 69 #[.int .i64 m] w fun e w' => e = .returned (.bool (inB m 2 10000)) ∧ w = w' := by
  go_enter Try.func69, Try.ntmps69
  go_wp2_with (go_at_call 75; refine (l1In_any _ _ _ _).mono ?_; rintro e w' ⟨rfl, rfl⟩)
  go_ret
  exact ⟨rfl, rfl⟩

/-- The order of a residue. -/
def ordG (x m : Int) : Bool := inR m x && decide (ordN m.toNat x.toNat ≠ 0)
def ordV (x m : Int) : Int := if inR m x then (ordN m.toNat x.toNat : Int) else 0
theorem ord_bad {x m : Int} (h : inR m x = false) : ordG x m = false ∧ ordV x m = 0 := by unfold ordG ordV; rw [h]; exact ⟨rfl, rfl⟩
theorem ord_is {M X e : Nat} (h : inR M X = true) (he : ordN M X = e) : ordG X M = decide (e ≠ 0) ∧ ordV X M = (e : Int) := by
  unfold ordG ordV
  rw [h, show (M : Int).toNat = M by omega, show (X : Int).toNat = X by omega, he]
  exact ⟨rfl, rfl⟩

theorem box1 {w w1 : World} {a : Value} {t : TypeId} (h : w.alloc (.cells #[a] t) = w1) :
    w1.cell? ⟨w.heap.size, 0, none⟩ = some a ∧ w1.heap.size = w.heap.size + 1 ∧ Below w.heap.size w w1 := by
  subst h
  refine ⟨?_, by simp, (Below.refl _ _).alloc (Nat.le_refl _) _⟩
  rw [World.cell?_alloc_at _ _ _ _ rfl]; rfl

end Go.Proofs.Ytbbjgcagkmlngaa
/- Plans run on residues, by the model. -/
namespace Go.Proofs.Ytbbjgcagkmlngaa
open Go.RowKit

theorem outs_take (l o : List Int) {k : Nat} (hk : k < o.length) {v : Nat} (hv : o[k] = (v : Int)) (hl : v < l.length) : outs 0 l (o.take (k + 1)) = outs 0 l (o.take k) ++ [l[v]] := by
  unfold outs
  rw [List.take_succ_eq_append_getElem hk, List.map_append, hv]
  simp [hl]

set_option maxRecDepth 100000 in
set_option maxHeartbeats 2000000 in
theorem moPick_any (B : Nat) (A A' : Option Addr) (c c' : Nat) (l o : List Int) (w : World) (hl : o.length ≤ 1000) (hB : B ≤ w.heap.size) (hin : ∀ x ∈ o, 0 ≤ x ∧ x < l.length) (hr : Rd w B 1 A l.length (l.map I)) (hr' : Rd w B 1 A' o.length (o.map I)) :
    Calls Try.prog 71 #[.slice A l.length c, .slice A' o.length c'] w fun e w' => ∃ A2 c2, e = .returned (.slice A2 o.length c2) ∧ OwI w' w.heap.size (.slice A2 o.length c2) (outs 0 l o) ∧ Below w.heap.size w w' := by
  have H := Lib.hid hr
  have H' := Lib.hid hr'
  have HIN := Lib.hid hin
  clear hr hr' hin
  go_enter Try.func71, Try.ntmps71
  go_wp2
  go_loopw [5, 10] (fun ov iv wr => ∃ (k : Nat) (A1 : Option Addr) (c1 : Nat), k ≤ o.length ∧ iv = .int .i64 (k : Int) ∧ ov = .slice A1 k c1 ∧ OwI wr w.heap.size ov (outs 0 l (o.take k)) ∧ Below w.heap.size w wr) (fun _ iv _ => o.length - (intOf iv).toNat)
  case atStart => exact ⟨0, none, 0, by omega, rfl, rfl, OwI.nil _ _, Below.refl _ _⟩
  case round =>
    obtain ⟨k, A1, c1, hk, rfl, rfl, hown, hbel⟩ := hrel
    have OWN := Lib.hid hown
    have BEL := Lib.hid hbel
    have hs := hbel.size
    by_cases hlt : k < o.length
    · obtain ⟨ob, oo, rfl, hob, hoc⟩ := (H'.out.below' hbel hB).int hlt
      obtain ⟨q1, q2⟩ := HIN.out _ (List.getElem_mem hlt)
      obtain ⟨v, hv⟩ : ∃ v : Nat, o[k] = v := ⟨(o[k]).toNat, by omega⟩
      rw [hv] at hoc q2
      have hvl : v < l.length := by omega
      obtain ⟨nb, no, rfl, hnb, hnc⟩ := (H.out.below' hbel hB).int hvl
      have E1 := Lib.hid (outs_take l o hlt hv hvl)
      have EL := Lib.hid (show (outs 0 l (o.take k)).length = k by rw [outs_len, List.length_take]; omega)
      obtain ⟨u, hu⟩ : ∃ u, l[v] = u := ⟨_, rfl⟩
      rw [hu] at hnc E1
      have ik : (k : Int) < (o.length : Int) := by omega
      have iv : (v : Int) < (l.length : Int) := by omega
      clear hu hv q1 q2 hown hbel hvl
      go_wp2_with (at_builtin; refine list_step (fun K hK => ?_); refine step_app_int rfl (.tmp 14) (.tmp 19) rfl w.heap.size k _ (outs 0 l (o.take k)) rfl (OWN.out.alloc _) EL.out wr.heap.size 1 u rfl (by simp) (by omega) (by simp; omega) ?_; intro A3 c3 w3 hown3 hg3 hbel3; go_simp; refine hK _ _ ?_; clear hK K)
      go_roundw
      case rel => exact ⟨k + 1, A3, c3, by omega, by go_num, rfl, by rw [E1.out]; exact hown3, (BEL.out.alloc hs _).trans hbel3⟩
      case measure => simp [intOf]; omega
    · have hk' : k = o.length := by omega
      subst hk'
      rw [List.take_of_length_le (Nat.le_refl _)] at OWN
      clear hown hbel
      go_wp2
      go_ret
      exact ⟨A1, c1, rfl, OWN.out, BEL.out⟩

theorem getD_at {l : List Int} {i : Nat} (h : i < l.length) : l.getD i 0 = l[i] := by simp [h]

end Go.Proofs.Ytbbjgcagkmlngaa
/- hasAll of the program over integers, for one kind of products. -/
namespace Go.Proofs.Ytbbjgcagkmlngaa
open Go.RowKit

set_option maxRecDepth 100000 in
set_option maxHeartbeats 1000000 in
theorem hasR1_any (g : Nat) (m : Int) (x : Int) (w : World) (hg : w.cell? ⟨g, 0, none⟩ = some (.iface 132 (.agg #[.int .i64 m]))) :
    Calls Try.prog 144 #[.int .i64 x, .pointer (some ⟨g, 0, none⟩)] w fun e w' => e = .returned (.bool (!inR m x)) ∧ Below w.heap.size w w' := by
  go_enter Try.func144, Try.ntmps144
  go_wp2_with fail
  refine (resHas_any m x _).mono ?_
  rintro e w2 ⟨rfl, hb2⟩
  have HB2 := Lib.hid hb2
  clear hb2
  go_wp2
  go_ret
  exact ⟨rfl, HB2.out⟩

set_option maxRecDepth 100000 in
set_option maxHeartbeats 2000000 in
theorem indexR_any (B g : Nat) (A : Option Addr) (c : Nat) (m : Int) (l : List Int) (w : World) (hl : l.length ≤ 4000000) (hB : B ≤ w.heap.size) (hgs : g < w.heap.size) (hg : w.cell? ⟨g, 0, none⟩ = some (.iface 132 (.agg #[.int .i64 m]))) (hr : Rd w B 1 A l.length (l.map I)) :
    Calls Try.prog 150 #[.slice A l.length c, .func (.func 144) #[] #[.pointer (some ⟨g, 0, none⟩)]] w fun e w' => (∃ i : Int, e = .returned (.int .i64 i) ∧ decide (0 ≤ i) = !l.all (inR m)) ∧ Below w.heap.size w w' := by
  have H := Lib.hid hr
  have HG := Lib.hid hg
  clear hr hg
  go_enter Try.func150, Try.ntmps150
  go_wp2
  go_loopw [8] (fun iv wr => ∃ j : Nat, j ≤ l.length ∧ iv = .int .i64 j ∧ (l.take j).all (inR m) = true ∧ Below w.heap.size w wr) (fun i _ => l.length - (intOf i).toNat)
  case atStart => exact ⟨0, by omega, rfl, rfl, Below.refl _ _⟩
  case round =>
    obtain ⟨j, hj, rfl, hno, hbel⟩ := hrel
    by_cases hlt : j < l.length
    · have iqk : (j : Int) < (l.length : Int) := by omega
      obtain ⟨b, off, rfl, hb, hc⟩ := (H.out.below' hbel hB).int hlt
      have hno2 : (l.take (j + 1)).all (inR m) = inR m l[j] := by rw [List.take_succ_eq_append_getElem hlt, List.all_append, hno]; simp
      have hbad : inR m l[j] = false → l.all (inR m) = false := fun h => by rw [List.all_eq_false]; exact ⟨_, List.getElem_mem hlt, by rw [h]; decide⟩
      obtain ⟨x, hx⟩ : ∃ x, l[j] = x := ⟨_, rfl⟩
      rw [hx] at hc hno2 hbad
      obtain ⟨t, ht⟩ : ∃ t, inR m x = t := ⟨_, rfl⟩
      rw [ht] at hno2 hbad
      have HB := hasR1_any g m x wr ((hbel.cell (p := ⟨g, 0, none⟩) hgs).trans HG.out)
      rw [ht] at HB
      have HB := Lib.hid HB
      have NO2 := Lib.hid hno2
      have BAD := Lib.hid hbad
      have BEL := Lib.hid hbel
      have hsz := hbel.size
      clear hno hno2 hx ht hbad hbel
      go_wp2_with fail
      refine HB.out.mono ?_
      rintro e w5 ⟨rfl, hb5⟩
      have BEL5 := Lib.hid (BEL.out.trans (hb5.mono hsz))
      clear hb5
      cases t with
      | false =>
        go_wp2
        go_ret
        refine ⟨⟨_, rfl, ?_⟩, BEL5.out⟩
        rw [BAD.out (by simp)]
        exact decide_eq_true (by omega)
      | true =>
        go_wp2
        go_roundw
        case rel => exact ⟨j + 1, by omega, by go_num, NO2.out, BEL5.out⟩
        case measure => simp [intOf]; omega
    · have hj' : j = l.length := by omega
      subst hj'
      rw [List.take_length] at hno
      have NO := Lib.hid hno
      clear hno
      go_wp2
      go_ret
      exact ⟨⟨_, rfl, by rw [NO.out]; rfl⟩, hbel⟩

set_option maxRecDepth 100000 in
set_option maxHeartbeats 1000000 in
theorem containsR_any (B g : Nat) (A : Option Addr) (c : Nat) (m : Int) (l : List Int) (w : World) (hl : l.length ≤ 4000000) (hB : B ≤ w.heap.size) (hgs : g < w.heap.size) (hg : w.cell? ⟨g, 0, none⟩ = some (.iface 132 (.agg #[.int .i64 m]))) (hr : Rd w B 1 A l.length (l.map I)) :
    Calls Try.prog 143 #[.slice A l.length c, .func (.func 144) #[] #[.pointer (some ⟨g, 0, none⟩)]] w fun e w' => e = .returned (.bool (!l.all (inR m))) ∧ Below w.heap.size w w' := by
  have HI := Lib.hid (indexR_any B g A c m l w hl hB hgs hg hr)
  clear hr hg
  go_enter Try.func143, Try.ntmps143
  go_wp2_with fail
  go_at_call 150
  refine HI.out.mono ?_
  rintro e w2 ⟨⟨i, rfl, hi⟩, hb2⟩
  have HII := Lib.hid hi
  have HB2 := Lib.hid hb2
  clear hi hb2
  go_wp2
  go_ret
  exact ⟨by rw [← HII.out]; rfl, HB2.out⟩

set_option maxRecDepth 100000 in
set_option maxHeartbeats 1000000 in
/-- hasAll of this kind. -/
theorem hasAllR_any (B : Nat) (A : Option Addr) (c : Nat) (m : Int) (l : List Int) (w : World) (hl : l.length ≤ 4000000) (hB : B ≤ w.heap.size) (hr : Rd w B 1 A l.length (l.map I)) :
    Calls Try.prog 131 #[.iface 132 (.agg #[.int .i64 m]), .slice A l.length c] w fun e w' => e = .returned (.bool (l.all (inR m))) ∧ Below w.heap.size w w' := by
  have H := Lib.hid hr
  clear hr
  obtain ⟨t, ht⟩ : ∃ t, l.all (inR m) = t := ⟨_, rfl⟩
  have HC := Lib.hid (fun W g hB hgs hg hr => containsR_any B g A c m l W hl hB hgs hg hr)
  rw [ht] at HC
  rw [ht]
  clear ht
  go_enter Try.func131, Try.ntmps131
  go_wp2_with fail
  go_at_call 143
  generalize hw1 : World.alloc w _ = w1
  obtain ⟨x0, xs, xb⟩ := box1 hw1
  clear hw1
  refine (HC.out w1 w.heap.size (by omega) (by omega) x0 (H.out.below' xb hB)).mono ?_
  rintro e w2 ⟨rfl, hb2⟩
  have HB2 := Lib.hid (xb.trans (hb2.mono (by omega)))
  clear hb2 xb x0
  go_wp2
  go_ret
  exact ⟨by simp, HB2.out⟩
end Go.Proofs.Ytbbjgcagkmlngaa
/- Powers of residues, of the model and of the program. -/
namespace Go.Proofs.Ytbbjgcagkmlngaa
open Go.RowKit

theorem nrem (a m : Nat) : ((a : Nat) : Int) % (m : Int) = ((a % m : Nat) : Int) := by push_cast; rfl
theorem pow20 {e : Nat} (h : e ≤ 1000000) : e < 2 ^ 20 := by omega
end Go.Proofs.Ytbbjgcagkmlngaa
/- PowersModulo, of the model and of the program. -/
namespace Go.Proofs.Ytbbjgcagkmlngaa
open Go.RowKit

end Go.Proofs.Ytbbjgcagkmlngaa
/- PowersModulo, of the model and of the program. -/
namespace Go.Proofs.Ytbbjgcagkmlngaa
open Go.RowKit

/-- Whether products of powers are asked rightly; the product. -/
def pmG (m : Int) (es xs : List Int) : Bool := inB m 2 10000 && (inB (xs.length : Int) 1 6 && (decide (es.length = xs.length) && (allB xs 0 (m - 1) && allB es 0 1000000)))
def pmV (m : Int) (es xs : List Int) : Int := if pmG m es xs then (pmK m.toNat es xs es.length : Int) else 0
theorem pm_bad {m : Int} {es xs : List Int} (h : pmG m es xs = false) : pmV m es xs = 0 := by unfold pmV; rw [h]; rfl
theorem pm_good {m : Int} {es xs : List Int} (h : pmG m es xs = true) : pmV m es xs = (pmK m.toNat es xs es.length : Int) := by unfold pmV; rw [if_pos h]
theorem allB_at {l : List Int} {lo hi : Int} (h : allB l lo hi = true) {k : Nat} (hk : k < l.length) : lo ≤ l[k] ∧ l[k] ≤ hi := by
  unfold allB inB at h
  rw [List.all_eq_true] at h
  have := h _ (List.getElem_mem hk)
  simpa using this
theorem all_inR {m : Int} {l : List Int} (h0 : 0 < l.length) : l.all (inR m) = (inB m 2 10000 && allB l 0 (m - 1)) := by
  rw [Bool.eq_iff_iff, Bool.and_eq_true]
  unfold allB inR
  rw [List.all_eq_true, List.all_eq_true]
  constructor
  · intro h
    refine ⟨?_, fun x hx => ?_⟩
    · have := h _ (List.getElem_mem h0)
      rw [Bool.and_eq_true] at this
      exact this.1
    · have := h x hx
      rw [Bool.and_eq_true] at this
      exact this.2
  · intro h x hx
    rw [h.1, h.2 x hx]
    rfl
theorem pmK_succ {m : Nat} {es xs : List Int} {k e x : Nat} (he : es.getD k 0 = (e : Int)) (hx : xs.getD k 0 = (x : Int)) : pmK m es xs (k + 1) = pwr (mulM m) 20 e (pmK m es xs k) x := by
  show pwr (mulM m) 20 (es.getD k 0).toNat (pmK m es xs k) (xs.getD k 0).toNat = _
  rw [he, hx]
  rfl

end Go.Proofs.Ytbbjgcagkmlngaa
/- RunResidues of the model. -/
namespace Go.Proofs.Ytbbjgcagkmlngaa
open Go.RowKit

/-- Whether a plan may run on residues; the residues of the outputs. -/
def rrG (p : Pl) (m : Int) (l : List Int) : Bool := good p && (inB m 2 10000 && (decide ((l.length : Int) = p.n) && allB l 0 (m - 1)))
def rrV (p : Pl) (m : Int) (l : List Int) : List Int := if rrG p m l then outs 0 ((runG (inR m) (mulR m.toNat) 0 l p.s).getD []) p.o else []
theorem rr_bad {p : Pl} {m : Int} {l : List Int} (h : rrG p m l = false) : rrV p m l = [] := by unfold rrV; rw [h]; rfl
theorem rr_len (p : Pl) (m : Int) (l : List Int) : (rrV p m l).length ≤ 1000 := by
  unfold rrV
  split
  · rename_i h
    unfold rrG at h
    rw [Bool.and_eq_true] at h
    obtain ⟨_, _, _, _, _, ho, _⟩ := good_facts h.1
    rw [outs_len]
    omega
  · simp
/-- What is known where a plan may run on residues. -/
theorem rr_good {p : Pl} {m : Int} {l : List Int} (h : rrG p m l = true) : ∃ (M N : Nat) (V : List Int), m = (M : Int) ∧ p.n = (N : Int) ∧ 2 ≤ M ∧ M ≤ 10000 ∧ 1 ≤ N ∧ N ≤ 6 ∧ p.s.length ≤ 40 ∧ p.o.length ≤ 6 ∧ OkS N p.s ∧ l.length = N ∧ (∀ x ∈ l, inR (M : Int) x = true) ∧ runG (inR M) (mulR M) 0 l p.s = some V ∧ V.length = N + p.s.length ∧ (∀ x ∈ V, inR (M : Int) x = true) ∧ (∀ x ∈ p.o, 0 ≤ x ∧ x < V.length) ∧ rrV p m l = outs 0 V p.o := by
  have h0 := h
  unfold rrG at h
  simp only [Bool.and_eq_true, decide_eq_true_eq] at h
  obtain ⟨h1, h2, h3, h4⟩ := h
  obtain ⟨N, hN, n1, n6, s40, o6, hok, ho, _⟩ := good_facts h1
  have hm : 2 ≤ m ∧ m ≤ 10000 := by simpa [inB] using h2
  obtain ⟨M, rfl⟩ : ∃ M : Nat, m = M := ⟨m.toNat, by omega⟩
  have hl : l.length = N := by omega
  have hall : ∀ x ∈ l, inR (M : Int) x = true := by
    have := all_inR (m := (M : Int)) (l := l) (by omega)
    rw [h2, h4] at this
    exact List.all_eq_true.1 (this.trans rfl)
  obtain ⟨V, hV, hVl, hVa⟩ := runG_all (has := inR (M : Int)) (mul := mulR M) (z := (0 : Int)) (N := N) (fun a b ha hb => mulR_in ha hb) p.s l hl hall hok
  refine ⟨M, N, V, rfl, hN, by omega, by omega, n1, n6, s40, o6, hok, hl, hall, hV, hVl, hVa, ?_, ?_⟩
  · intro x hx
    have := ho x hx
    omega
  · unfold rrV
    rw [if_pos h0, show (M : Int).toNat = M by omega, hV]
    rfl

end Go.Proofs.Ytbbjgcagkmlngaa
/- Runs of code of registers on residues, as data: the registers have the values whose numbers they have. -/
namespace Go.Proofs.Ytbbjgcagkmlngaa
open Go.RowKit

/-- The first k values of a run, if none fails. -/
def vlK (m : Nat) (l : List Int) (s : List (Int × Int)) : Nat → List Int
  | 0 => l
  | k + 1 => vlK m l s k ++ [prd (mulR m) 0 (vlK m l s k) (s.getD k (0, 0))]
theorem vlK_len (m : Nat) (l : List Int) (s : List (Int × Int)) : ∀ k, (vlK m l s k).length = l.length + k := by
  intro k
  induction k with
  | zero => rfl
  | succ k ih => simp only [vlK, List.length_append, ih, List.length_singleton]; omega
theorem runG_vlK {has : Int → Bool} {m : Nat} (s : List (Int × Int)) : ∀ (r : List (Int × Int)) (l V : List Int) (k : Nat), k + r.length = s.length → r = s.drop k → runG has (mulR m) 0 (vlK m l s k) r = some V → V = vlK m l s s.length := by
  intro r
  induction r with
  | nil =>
    intro l V k hk hr h
    rw [runG] at h
    cases h
    have : k = s.length := by simpa using hk
    rw [this]
  | cons q r ih =>
    intro l V k hk hr h
    have hlt : k < s.length := by simp only [List.length_cons] at hk; omega
    rw [List.drop_eq_getElem_cons hlt] at hr
    injection hr with e1 e2
    have hg : s.getD k (0, 0) = s[k] := by simp [hlt]
    rw [runG] at h
    split at h
    · refine ih l V (k + 1) (by simp only [List.length_cons] at hk; omega) e2 ?_
      simp only [vlK]
      rw [hg, ← e1]
      exact h
    · cases h
/-- The values in the registers: the inputs, the first k ops. -/
def rvI (m : Nat) (i l : List Int) : Nat → List Int
  | 0 => List.replicate m 0
  | k + 1 => (rvI m i l k).set (i.getD k 0).toNat (l.getD k 0)
def vat (l : List Int) (r : Int) : Int := l.getD r.toNat 0
def rvM (q : Nat) (a : List Int) (ops : List (Int × Int × Int)) : Nat → List Int
  | 0 => a
  | k + 1 => (rvM q a ops k).set (ops.getD k (0, 0, 0)).1.toNat (mulR q (vat (rvM q a ops k) (ops.getD k (0, 0, 0)).2.1) (vat (rvM q a ops k) (ops.getD k (0, 0, 0)).2.2))
theorem rvI_len (m : Nat) (i l : List Int) : ∀ k, (rvI m i l k).length = m := by
  intro k
  induction k with
  | zero => simp [rvI]
  | succ k ih => simp [rvI, ih]
theorem rvM_len (q : Nat) (a : List Int) (ops : List (Int × Int × Int)) : ∀ k, (rvM q a ops k).length = a.length := by
  intro k
  induction k with
  | zero => rfl
  | succ k ih => simp [rvM, ih]
theorem vat_set {l : List Int} {j : Nat} {r x : Int} (hj : j < l.length) (h0 : 0 ≤ r) : vat (l.set j x) r = if (j : Int) = r then x else vat l r := by
  unfold vat
  rw [List.getD_eq_getElem?_getD, List.getElem?_set]
  by_cases h : (j : Int) = r
  · have : j = r.toNat := by omega
    subst this
    rw [if_pos h]
    simp [hj]
  · have : ¬ j = r.toNat := by omega
    rw [if_neg h, if_neg this]
    rfl
theorem rvI_at {m : Nat} {i l : List Int} (hi : ∀ x ∈ i, 0 ≤ x ∧ x < m) (r : Int) (h0 : 0 ≤ r) (h1 : r < m) : ∀ k, k ≤ i.length → 0 ≤ reg (rgI 46 i k) r → m ≤ 46 → vat (rvI m i l k) r = l.getD (reg (rgI 46 i k) r).toNat 0 := by
  intro k
  induction k with
  | zero =>
    intro _ h hm
    exfalso
    rcases rgI_full (m := 46) (i := i) (fun x hx => ⟨(hi x hx).1, by have := (hi x hx).2; omega⟩) h0 (by omega) 0 (Nat.zero_le _) with ⟨h3, _⟩ | ⟨_, _, h3⟩
    · omega
    · simp at h3
  | succ k ih =>
    intro hk h hm
    have hlt : k < i.length := by omega
    have hg : i.getD k 0 = i[k] := by simp [hlt]
    obtain ⟨x0, x1⟩ := hi _ (List.getElem_mem hlt)
    simp only [rvI, rgI] at h ⊢
    rw [reg_set (by rw [rgI_len]; omega) h0, hg] at h ⊢
    rw [vat_set (by rw [rvI_len]; omega) h0]
    by_cases e : (((i[k].toNat : Nat) : Int)) = r
    · rw [if_pos e, if_pos e]
      rfl
    · rw [if_neg e] at h
      rw [if_neg e, if_neg e]
      exact ih (by omega) h hm
theorem mulR_comm (m : Nat) (a b : Int) : mulR m a b = mulR m b a := by unfold mulR; rw [Int.mul_comm]
theorem prd_st (m : Nat) (vs : List Int) (a b : Int) : prd (mulR m) 0 vs (stI a b) = mulR m (vat vs a) (vat vs b) := by
  unfold prd stI leastI mostI vat
  simp only
  split <;> split
  · omega
  · rfl
  · exact mulR_comm _ _ _
  · have : a = b := by omega
    subst this
    rfl
/-- A register that is not empty has the value whose number it has. -/
theorem rv_at {R q : Nat} {c : Rc} {l : List Int} (hb : rcB c = true) (hR : c.r = R) (hl : l.length = c.i.length) : ∀ k, k ≤ c.ops.length → ∀ r : Int, 0 ≤ r → r < R → 0 ≤ reg (rcA 46 c k) r → vat (rvM q (rvI R c.i l c.i.length) c.ops k) r = vat (vlK q l (rcP c).s k) (reg (rcA 46 c k) r) := by
  obtain ⟨R', e0, h1, h2, h3, h4, h5, h6, hnd, hin, hop, hout, hgd⟩ := rcB_facts hb
  have eR : R' = R := by omega
  subst eR
  intro k
  induction k with
  | zero =>
    intro _ r r0 r1 h
    exact rvI_at hin r r0 r1 c.i.length (Nat.le_refl _) h h2
  | succ k ih =>
    intro hk r r0 r1 h
    have hlt : k < c.ops.length := by omega
    have hg : c.ops.getD k (0, 0, 0) = c.ops[k] := by simp [hlt]
    have ho := hop _ (List.getElem_mem hlt)
    obtain ⟨g1, g2⟩ := good_read hgd hlt
    unfold opIn inB at ho
    simp only [Bool.and_eq_true, decide_eq_true_eq] at ho
    obtain ⟨⟨t0, t1⟩, ⟨a0, a1⟩, b0, b1⟩ := ho
    have bd : ∀ r, -1 ≤ reg (rcA 46 c k) r ∧ reg (rcA 46 c k) r < ((c.i.length + k : Nat) : Int) := fun r => reg_bd (by omega) (rgM_bd (rgI_bd _) k) r
    have hlen : (vlK q l (rcP c).s k).length = c.i.length + k := by rw [vlK_len, hl]
    have hsg : (rcP c).s.getD k (0, 0) = stI (reg (rcA 46 c k) (c.ops[k]).2.1) (reg (rcA 46 c k) (c.ops[k]).2.2) := by
      have hl2 : k < (rcP c).s.length := by show k < (rgS _ _ _ _).length; rw [rgS_len]; exact hlt
      rw [List.getD_eq_getElem?_getD, List.getElem?_eq_getElem hl2, Option.getD_some]
      have := rgS_get (rgI 46 c.i c.i.length) c.i.length c.ops _ hlt hl2
      rw [hg] at this
      exact this
    have eA : rcA 46 c (k + 1) = (rcA 46 c k).set (c.ops[k]).1.toNat (((c.i.length + k : Nat) : Int)) := by
      show rgM _ _ _ (k + 1) = _
      simp only [rgM]
      rw [hg]
      rfl
    rw [eA, reg_set (by rw [rcA_len]; omega) r0] at h ⊢
    simp only [rvM, vlK]
    rw [hg, vat_set (by rw [rvM_len, rvI_len]; omega) r0, hsg, prd_st]
    rw [hg] at g1 g2
    by_cases e : ((((c.ops[k]).1.toNat : Nat) : Int)) = r
    · rw [if_pos e, if_pos e, ih (by omega) _ a0 (by omega) g1, ih (by omega) _ b0 (by omega) g2]
      generalize mulR q _ _ = z
      unfold vat
      rw [show (((c.i.length + k : Nat) : Int)).toNat = c.i.length + k by omega, List.getD_eq_getElem?_getD, List.getElem?_append_right (by omega)]
      simp [hlen]
    · rw [if_neg e] at h
      rw [if_neg e, if_neg e, ih (by omega) r r0 r1 h]
      have := bd r
      unfold vat
      rw [List.getD_eq_getElem?_getD, List.getD_eq_getElem?_getD, List.getElem?_append_left (by omega)]
/-- What is picked in the end. -/
theorem rv_outs {R : Nat} {m : Int} {c : Rc} {l V : List Int} (hb : rcB c = true) (hR : c.r = R) (hl : l.length = c.i.length) (hV : runG (inR m) (mulR m.toNat) 0 l (rcP c).s = some V) :
    outs 0 (rvM m.toNat (rvI R c.i l c.i.length) c.ops c.ops.length) c.o = outs 0 V (rcP c).o := by
  have hs : (rcP c).s.length = c.ops.length := rgS_len _ _ _ _
  have e := runG_vlK (has := inR m) (m := m.toNat) (rcP c).s (rcP c).s l V 0 (by omega) rfl hV
  rw [hs] at e
  obtain ⟨R', e0, h1, h2, h3, h4, h5, h6, hnd, hin, hop, hout, hgd⟩ := rcB_facts hb
  unfold outs
  show _ = List.map _ (List.map _ _)
  rw [List.map_map]
  refine List.map_congr_left fun x hx => ?_
  obtain ⟨x0, x1⟩ := hout x hx
  have hn : 0 ≤ reg (rcA 46 c c.ops.length) x := by
    obtain ⟨j, hj, rfl⟩ := List.mem_iff_getElem.1 hx
    rcases Int.lt_or_le (reg (rcA 46 c c.ops.length) c.o[j]) 0 with h | h
    · rw [bad_out hj h] at hb; cases hb
    · exact h
  have := rv_at (q := m.toNat) hb hR hl c.ops.length (Nat.le_refl _) x x0 (by omega) hn
  rw [e]
  exact this
end Go.Proofs.Ytbbjgcagkmlngaa
/- What a run of the program answers, as data. -/
namespace Go.Proofs.Ytbbjgcagkmlngaa
open Go.RowKit
def runB (has : Int → Bool) (mul : Int → Int → Int) (p : Pl) (l : List Int) : Bool := good p && (decide ((l.length : Int) = p.n) && (l.all has && (runG has mul 0 l p.s).isSome))
def runV (has : Int → Bool) (mul : Int → Int → Int) (p : Pl) (l : List Int) : List Int := if runB has mul p l then outs 0 ((runG has mul 0 l p.s).getD []) p.o else []
theorem run_bad {has : Int → Bool} {mul : Int → Int → Int} {p : Pl} {l : List Int} (h : runB has mul p l = false) : runV has mul p l = [] := by unfold runV; rw [h]; rfl
theorem run_val {has : Int → Bool} {mul : Int → Int → Int} {p : Pl} {l V : List Int} (h : runG has mul 0 l p.s = some V) (hb : runB has mul p l = true) : runV has mul p l = outs 0 V p.o := by
  unfold runV
  rw [if_pos hb, h]
  rfl
/-- Runs on residues. -/
theorem rr_run {p : Pl} {m : Int} {l : List Int} : rrG p m l = runB (inR m) (mulR m.toNat) p l ∧ rrV p m l = runV (inR m) (mulR m.toNat) p l := by
  have key : rrG p m l = runB (inR m) (mulR m.toNat) p l := by
    cases hg : rrG p m l with
    | true =>
      obtain ⟨M, N, V, rfl, hN, n2, n4, k1, k6, s40, o6, hok, hll, hall, hV, _⟩ := rr_good hg
      unfold rrG at hg
      rw [Bool.and_eq_true] at hg
      unfold runB
      rw [hg.1, decide_eq_true (show (l.length : Int) = p.n by omega), List.all_eq_true.2 hall, show (M : Int).toNat = M by omega, hV]
      rfl
    | false =>
      unfold rrG at hg
      unfold runB
      cases h1 : good p with
      | false => rfl
      | true =>
        obtain ⟨N, hN, n1, _⟩ := good_facts h1
        by_cases h2 : (l.length : Int) = p.n
        · rw [all_inR (m := m) (l := l) (by omega)]
          rw [h1, decide_eq_true h2] at hg
          cases h3 : inB m 2 10000 <;> cases h4 : allB l 0 (m - 1) <;> simp_all
        · rw [decide_eq_false h2]; rfl
  refine ⟨key, ?_⟩
  unfold rrV runV
  rw [key]
theorem mulR_any (m : Int) (a b : Int) (w : World) (ha : inR m a = true) (hb : inR m b = true) :
    Calls Try.prog 178 #[.agg #[.int .i64 m], .int .i64 a, .int .i64 b] w fun e w' => e = .returned (.int .i64 (mulR m.toNat a b)) ∧ Below w.heap.size w w' := by
  obtain ⟨h1, h2, h3, h4⟩ := inR_rng ha
  obtain ⟨_, _, h5, h6⟩ := inR_rng hb
  obtain ⟨M, rfl⟩ : ∃ M : Nat, m = M := ⟨m.toNat, by omega⟩
  obtain ⟨x, rfl⟩ : ∃ x : Nat, a = x := ⟨a.toNat, by omega⟩
  obtain ⟨y, rfl⟩ : ∃ y : Nat, b = y := ⟨b.toNat, by omega⟩
  rw [show (M : Int).toNat = M by omega, mulR_nat]
  exact resMul_any M x y w (by omega) (by omega) (by omega) (by omega)
theorem T_lp1 {P : Program} {ops : Array Oper} {Q : Exit → Act → World → Prop} {S : World → Prop} {SL : List Nat} {i : Nat} {t : Tr} {o : Oper} {a : Act} {w : World} {v : Value} (ho : ops[i]? = some o) (hg : o.guard = none)
    (hv : ∀ x, (execOp a.eval o).run P x = .ok (.value v) x) (h : ∀ K : Act → Prop, (∀ a, wpT P ops Q S SL t a w → K a) → K (a.put o.dst v)) : wpT P ops Q S SL (.lp i t) a w :=
  ⟨o, ho, by rw [if_pos (by simp [Region.wanted, hg])]; exact ⟨v, fun x _ => hv x, h _ fun _ h => h⟩⟩
end Go.Proofs.Ytbbjgcagkmlngaa
/- Plans run on integers, by the program, for one kind of products. -/
namespace Go.Proofs.Ytbbjgcagkmlngaa
open Go.RowKit

set_option maxRecDepth 100000 in
set_option maxHeartbeats 8000000 in
theorem runR_any (B : Nat) (A0 B0 : Option Addr) (c0 d0 : Nat) (p : Pl) (m : Int) (A2 : Option Addr) (c2 : Nat) (l : List Int) (w : World) (hB : B ≤ w.heap.size) (hs : p.s.length ≤ 1048576) (ho : p.o.length ≤ 1048576) (hl : l.length ≤ 1048576)
    (hr : RdP w B A0 B0 p) (hrl : Rd w B 1 A2 l.length (l.map I)) :
    Calls Try.prog 109 #[.agg #[.int .i64 p.n, .slice A0 p.s.length c0, .slice B0 p.o.length d0], .iface 132 (.agg #[.int .i64 m]), .slice A2 l.length c2] w fun e w' =>
      ∃ A' c', e = .returned (.tuple #[.slice A' (runV (inR m) (mulR m.toNat) p l).length c', .bool (runB (inR m) (mulR m.toNat) p l)]) ∧ OwI w' w.heap.size (.slice A' (runV (inR m) (mulR m.toNat) p l).length c') (runV (inR m) (mulR m.toNat) p l) ∧ Below w.heap.size w w' := by
  have H := Lib.hid hr
  have HL := Lib.hid hrl
  have PG := Lib.hid (fun W hB hr => implIsPlan_any B A0 B0 c0 d0 p W hB (by omega) (by omega) hr)
  have HA := Lib.hid (fun W hB hr => hasAllR_any B A2 c2 m l W (by omega) hB hr)
  have MC := Lib.hid (fun a b W ha hb => mulR_any m a b W ha hb)
  have HC := Lib.hid (fun a W => resHas_any m a W)
  have RB := Lib.hid (fun h => run_bad (has := inR m) (mul := mulR m.toNat) (p := p) (l := l) h)
  have RD := Lib.hid (show runB (inR m) (mulR m.toNat) p l = (good p && (decide ((l.length : Int) = p.n) && (l.all (inR m) && (runG (inR m) (mulR m.toNat) 0 l p.s).isSome))) from rfl)
  have RV := Lib.hid (fun V h1 h2 => run_val (has := inR m) (mul := mulR m.toNat) (p := p) (l := l) (V := V) h1 h2)
  clear hr hrl
  obtain ⟨rv, hrv⟩ : ∃ x, runV (inR m) (mulR m.toNat) p l = x := ⟨_, rfl⟩
  obtain ⟨rb, hrb⟩ : ∃ x, runB (inR m) (mulR m.toNat) p l = x := ⟨_, rfl⟩
  rw [hrv, hrb] at RV
  rw [hrv, hrb] at RB
  rw [hrb] at RD
  rw [hrv, hrb]
  clear hrv hrb
  cases h1 : good p with
  | false =>
    have eb : rb = false := by rw [RD.out, h1]; rfl
    have EV := Lib.hid (RB.out eb)
    rw [eb]
    rw [h1] at PG
    clear h1 eb
    go_enter Try.func109, Try.ntmps109
    go_wp2_with fail
    go_at_call 130
    generalize hw1 : World.alloc w _ = w1
    obtain ⟨x0, x1, x2, xs, xb⟩ := box3 hw1
    clear hw1
    refine (PG.out w1 (by omega) (H.out.below' xb hB)).mono ?_
    rintro e w2 ⟨rfl, hb2⟩
    have y0 := (hb2.cell (p := ⟨w.heap.size, 0, none⟩) (by simp only []; omega)).trans x0
    have HB := Lib.hid (xb.trans (hb2.mono (by omega)))
    have hs2 : w1.heap.size ≤ w2.heap.size := hb2.size
    have hB2 : B ≤ w2.heap.size := by omega
    clear hb2 xb x0 x1 x2
    go_wp2
    go_ret2
    exact ⟨none, 0, by rw [EV.out]; rfl, by rw [EV.out]; exact OwI.nil _ _, HB.out⟩
  | true =>
  rw [h1] at PG
  obtain ⟨N, hN, n1, n6, s40, o6, hok, hout, _⟩ := good_facts h1
  by_cases h2 : l.length = N
  case neg =>
    have eb : rb = false := by rw [RD.out, h1, decide_eq_false (show ¬ (l.length : Int) = p.n by omega)]; rfl
    have EV := Lib.hid (RB.out eb)
    rw [eb]
    rw [hN] at PG
    rw [hN]
    have i2 : ¬ (l.length : Int) = (N : Int) := by omega
    clear h1 h2 eb hout hok hN
    go_enter Try.func109, Try.ntmps109
    go_wp2_with fail
    go_at_call 130
    generalize hw1 : World.alloc w _ = w1
    obtain ⟨x0, x1, x2, xs, xb⟩ := box3 hw1
    clear hw1
    refine (PG.out w1 (by omega) (H.out.below' xb hB)).mono ?_
    rintro e w2 ⟨rfl, hb2⟩
    have y0 := (hb2.cell (p := ⟨w.heap.size, 0, none⟩) (by simp only []; omega)).trans x0
    have HB := Lib.hid (xb.trans (hb2.mono (by omega)))
    have hs2 : w1.heap.size ≤ w2.heap.size := hb2.size
    have hB2 : B ≤ w2.heap.size := by omega
    clear hb2 xb x0 x1 x2
    go_wp2
    go_ret2
    exact ⟨none, 0, by rw [EV.out]; rfl, by rw [EV.out]; exact OwI.nil _ _, HB.out⟩
  have RD2 := Lib.hid (show rb = (l.all (inR m) && (runG (inR m) (mulR m.toNat) 0 l p.s).isSome) by rw [RD.out, h1, decide_eq_true (show (l.length : Int) = p.n by omega)]; rfl)
  rw [hN] at PG
  rw [hN]
  have LN := Lib.hid h2
  rw [h2] at HA HL
  rw [h2]
  cases h3 : l.all (inR m) with
  | false =>
    have eb : rb = false := by rw [RD2.out, h3]; rfl
    have EV := Lib.hid (RB.out eb)
    rw [eb]
    rw [h3] at HA
    clear h1 h2 h3 eb hout hok hN
    go_enter Try.func109, Try.ntmps109
    go_wp2_with fail
    go_at_call 130
    generalize hw1 : World.alloc w _ = w1
    obtain ⟨x0, x1, x2, xs, xb⟩ := box3 hw1
    clear hw1
    refine (PG.out w1 (by omega) (H.out.below' xb hB)).mono ?_
    rintro e w2 ⟨rfl, hb2⟩
    have y0 := (hb2.cell (p := ⟨w.heap.size, 0, none⟩) (by simp only []; omega)).trans x0
    have HB := Lib.hid (xb.trans (hb2.mono (by omega)))
    have hs2 : w1.heap.size ≤ w2.heap.size := hb2.size
    have hB2 : B ≤ w2.heap.size := by omega
    clear hb2 xb x0 x1 x2
    go_wp2_with fail
    go_at_call 131
    refine (HA.out w2 hB2 (HL.out.below' HB.out hB)).mono ?_
    rintro e w3 ⟨rfl, hb3⟩
    have HB := Lib.hid (HB.out.trans (hb3.mono (by omega)))
    clear hb3 y0
    go_wp2
    go_ret2
    exact ⟨none, 0, by rw [EV.out]; rfl, by rw [EV.out]; exact OwI.nil _ _, HB.out⟩
  | true =>
    have RD3 := Lib.hid (show rb = (runG (inR m) (mulR m.toNat) 0 l p.s).isSome by rw [RD2.out, h3]; rfl)
    have HV := Lib.hid (List.all_eq_true.1 h3)
    rw [h3] at HA
    have CL := Lib.hid (fun W hB hr => cloneI_any B A2 c2 l W (by omega) (by omega) hB hr)
    rw [h2] at CL
    have HO := Lib.hid hok
    have OUT := Lib.hid hout
    obtain ⟨R, hR⟩ : ∃ R, runG (inR m) (mulR m.toNat) 0 l p.s = R := ⟨_, rfl⟩
    have HR := Lib.hid hR
    rw [hR] at RD3 RV
    clear h1 h2 h3 hout hok hN hR
    go_enter Try.func109, Try.ntmps109
    go_wp2_with fail
    go_at_call 130
    generalize hw1 : World.alloc w _ = w1
    obtain ⟨x0, x1, x2, xs, xb⟩ := box3 hw1
    clear hw1
    refine (PG.out w1 (by omega) (H.out.below' xb hB)).mono ?_
    rintro e w2 ⟨rfl, hb2⟩
    have y0 := (hb2.cell (p := ⟨w.heap.size, 0, none⟩) (by simp only []; omega)).trans x0
    have FS := Lib.hid (show ∀ x, Below w1.heap.size w1 x → x.cell? ⟨w.heap.size, 1, none⟩ = some (.slice A0 p.s.length c0) ∧ x.cell? ⟨w.heap.size, 2, none⟩ = some (.slice B0 p.o.length d0) from fun x hx =>
      ⟨(hx.cell (p := ⟨w.heap.size, 1, none⟩) (by simp only []; omega)).trans x1, (hx.cell (p := ⟨w.heap.size, 2, none⟩) (by simp only []; omega)).trans x2⟩)
    have X1 := Lib.hid xs
    have B12 := Lib.hid hb2
    have XB := Lib.hid xb
    have HB := Lib.hid (xb.trans (hb2.mono (by omega)))
    have hs2 : w1.heap.size ≤ w2.heap.size := hb2.size
    have hB2 : B ≤ w2.heap.size := by omega
    clear hb2 xb x0 x1 x2 xs
    go_wp2_with fail
    go_at_call 131
    refine (HA.out w2 hB2 (HL.out.below' HB.out hB)).mono ?_
    rintro e w3 ⟨rfl, hb3⟩
    have B13 := Lib.hid (B12.out.trans (hb3.mono hs2))
    have HB3 := Lib.hid (HB.out.trans (hb3.mono (by have := X1.out; omega)))
    have hs3 : w1.heap.size ≤ w3.heap.size := B13.out.size
    clear hb3 y0
    go_wp2_with fail
    go_at_call 132
    refine (CL.out w3 (by have := X1.out; omega) (HL.out.below' HB3.out hB)).mono ?_
    rintro e w4 ⟨A4, c4, rfl, ho4, hb4⟩
    have B14 := Lib.hid (B13.out.trans (hb4.mono hs3))
    have O4 := Lib.hid (ho4.base (show w.heap.size + 1 ≤ w3.heap.size by have := X1.out; omega))
    clear hb4 ho4
    have z1 := (FS.out w4 B14.out).1
    go_wp2
    go_loopw [8, 36] (fun ov iv wr => ∃ (j : Nat) (A : Option Addr) (c : Nat) (vs : List Int), j ≤ p.s.length ∧ iv = .int .i64 (j : Int) ∧ ov = .slice A vs.length c ∧ vs.length = N + j ∧ Hid (∀ x ∈ vs, inR m x = true) ∧ Hid (runG (inR m) (mulR m.toNat) 0 vs (p.s.drop j) = R) ∧ OwI wr (w.heap.size + 1) ov vs ∧ Below w1.heap.size w1 wr) (fun _ iv _ => p.s.length - (intOf iv).toNat)
    case atStart => exact ⟨0, A4, c4, l, by omega, rfl, by rw [LN.out], by rw [LN.out]; rfl, HV, by simpa using HR, O4.out, B14.out⟩
    case round =>
      obtain ⟨j, A, c, vs, hj, rfl, rfl, hvl, hva, hrun, hown, hbel⟩ := hrel
      have BEL := Lib.hid hbel
      have OWN := Lib.hid hown
      have HVL := Lib.hid hvl
      have hsz : w.heap.size + 1 ≤ wr.heap.size := by have := X1.out; have := hbel.size; omega
      clear z1
      by_cases hlt : j < p.s.length
      · obtain ⟨o1, o2, o3⟩ := HO.out j hlt
        obtain ⟨a, ha⟩ : ∃ a : Nat, (p.s[j]).1 = a := ⟨(p.s[j]).1.toNat, by omega⟩
        obtain ⟨b, hb⟩ : ∃ b : Nat, (p.s[j]).2 = b := ⟨(p.s[j]).2.toNat, by omega⟩
        obtain ⟨sb, off, rfl, hsb, hc1, hc2⟩ := ((H.out.1.below' XB.out hB).below' hbel (by have := X1.out; omega)).stp hlt
        rw [ha] at hc1
        rw [hb] at hc2
        have hal : a < vs.length := by omega
        have hbl : b < vs.length := by omega
        obtain ⟨g, go, rfl, hg, hca⟩ := hown.rd.int hal
        obtain ⟨g', go', hg', _, hcb⟩ := hown.rd.int hbl
        obtain ⟨rfl, rfl⟩ : g = g' ∧ go = go' := by injection hg' with hg'; injection hg' with h1 h2; exact ⟨h1, h2⟩
        have MCI := Lib.hid (fun W => MC.out vs[a] vs[b] W (hva.out _ (List.getElem_mem hal)) (hva.out _ (List.getElem_mem hbl)))
        have PR := Lib.hid (show prd (mulR m.toNat) 0 vs p.s[j] = (mulR m.toNat) vs[a] vs[b] by
          unfold prd
          rw [ha, hb, show ((a : Int)).toNat = a by omega, show ((b : Int)).toNat = b by omega, getD_at hal, getD_at hbl])
        have GOOD := Lib.hid (fun h => runG_good (has := inR m) (vs := vs) (mul := mulR m.toNat) (z := (0 : Int)) hlt h)
        have BADG := Lib.hid (fun h => runG_bad (has := inR m) (vs := vs) (mul := mulR m.toNat) (z := (0 : Int)) hlt h)
        rw [PR.out] at GOOD
        rw [PR.out] at BADG
        obtain ⟨x, hx⟩ : ∃ x, vs[a] = x := ⟨_, rfl⟩
        obtain ⟨y, hy⟩ : ∃ y, vs[b] = y := ⟨_, rfl⟩
        rw [hx] at hca MCI GOOD BADG
        rw [hy] at hcb MCI GOOD BADG
        obtain ⟨P, hP⟩ : ∃ P, (mulR m.toNat) x y = P := ⟨_, rfl⟩
        rw [hP] at MCI GOOD BADG
        have HCP := Lib.hid (HC.out P)
        obtain ⟨n, hn⟩ : ∃ n, vs.length = n := ⟨_, rfl⟩
        have HN := Lib.hid hn
        have ia : (a : Int) < (n : Int) := by omega
        have ib : (b : Int) < (n : Int) := by omega
        have hn46 : n ≤ 46 := by omega
        rw [hn] at OWN
        rw [hn]
        have ij : (j : Int) < (p.s.length : Int) := by omega
        clear o1 o2 o3 ha hb hal hbl hx hy hown hbel hg' hn hvl hP PR
        go_wp2
        refine wp_region_Tw [0, 1, 2, 3, 4, 5, 6, 7, 8, 9, 10, 11, 12, 13, 15] [3, 5, 8, 10] (.lp 0 (.lp 1 (.lp 2 (.lp 6 (.lp 7 (.lp 11 (.lp 12 (.lp 13 (.ls 3 (.lp 4 (.ls 5 (.ls 8 (.lp 9 (.ls 10 (.hv 14 (.lp 15 (.done))))))))))))))))) (by kernel_rfl) (by kernel_rfl) ?_
        (repeat (first | (refine T_lp rfl (fun K hK => ?_); go_simp; refine hK _ ?_; clear hK K) | (refine T_ls rfl rfl (fun K hK => ?_); go_simp; refine hK _ ?_; clear hK K)))
        refine T_lp1 (v := .func (.method "loop.example/g01098/impl.multiply") #[.iface 132 (.agg #[.int .i64 m])] #[]) rfl rfl (fun x => by kernel_rfl) (fun K hK => ?_)
        (go_simp; refine hK _ ?_; clear hK K)
        (repeat (first | (refine T_lp rfl (fun K hK => ?_); go_simp; refine hK _ ?_; clear hK K) | (refine T_ls rfl rfl (fun K hK => ?_); go_simp; refine hK _ ?_; clear hK K)))
        (refine T_hv rfl (by kernel_rfl) (fun K hK => ?_); go_simp)
        refine (MCI.out _).mono ?_
        rintro e w5 ⟨rfl, hb5⟩
        have hb15 : Below w1.heap.size w1 w5 := ((BEL.out.alloc BEL.out.size _).drew).trans (hb5.mono (by have := BEL.out.size; simp; omega))
        have OWN5 : OwI w5 (w.heap.size + 1) (.slice (some ⟨g, go, none⟩) n c) vs := ((OWN.out.alloc _).drew).below hb5
        have B15 := Lib.hid hb15
        have O5 := Lib.hid OWN5
        have hs5 : w.heap.size + 1 ≤ w5.heap.size := by have := X1.out; have := hb15.size; omega
        clear hb5 hb15 OWN5
        (go_simp; refine hK _ _ ?_; clear hK K)
        (repeat (first | (refine T_lp rfl (fun K hK => ?_); go_simp; refine hK _ ?_; clear hK K) | (refine T_ls rfl rfl (fun K hK => ?_); go_simp; refine hK _ ?_; clear hK K)))
        refine T_done ?_
        go_wp2_with fail
        cases hh : inR m P with
        | false =>
          have eR := hrun.out
          rw [BADG.out hh] at eR
          have eb : rb = false := by rw [RD3.out, ← eR]; rfl
          have EV := Lib.hid (RB.out eb)
          have EB := Lib.hid eb
          rw [hh] at HCP
          clear hh eR eb
          refine (HCP.out _).mono ?_
          rintro e w6 ⟨rfl, hb6⟩
          have B16 := Lib.hid (B15.out.trans (hb6.mono (by have := X1.out; have := B15.out.size; omega)))
          clear hb6
          go_wp2
          go_ret2
          exact ⟨none, 0, by rw [EV.out, EB.out]; rfl, by rw [EV.out]; exact OwI.nil _ _, XB.out.trans (B16.out.mono (by have := X1.out; omega))⟩
        | true =>
          have GO := Lib.hid (GOOD.out hh)
          have HH := Lib.hid hh
          rw [hh] at HCP
          clear hh
          refine (HCP.out _).mono ?_
          rintro e w6 ⟨rfl, hb6⟩
          have B16 := Lib.hid (B15.out.trans (hb6.mono (by have := X1.out; have := B15.out.size; omega)))
          have O6 := Lib.hid (O5.out.below hb6)
          have hs6 : w.heap.size + 1 ≤ w6.heap.size := by have := hb6.size; omega
          clear hb6
          go_wp2_with (at_builtin; refine list_step (fun K hK => ?_); refine step_app_int rfl (.tmp 59) (.tmp 61) rfl (w.heap.size + 1) n _ vs rfl (O6.out.alloc _) HN.out w6.heap.size 1 P rfl (by simp) (by omega) (by simp; omega) ?_; intro A3 c3 w7 hown7 hg7 hbel7; go_simp; refine hK _ _ ?_; clear hK K)
          go_roundw
          case rel =>
            refine ⟨j + 1, A3, c3, vs ++ [P], by omega, by go_num, by rw [List.length_append, HN.out]; rfl, by rw [List.length_append, HVL.out]; simp; omega, Lib.hid ?_, Lib.hid (by rw [← GO.out]; exact hrun.out), hown7, (B16.out.alloc (B16.out.size) _).trans (hbel7.mono (by have := X1.out; omega))⟩
            intro z hz
            rcases List.mem_append.1 hz with hz | hz
            · exact hva.out z hz
            · rw [List.mem_singleton.1 hz]; exact HH.out
          case measure => simp [intOf]; omega
      · have hj' : j = p.s.length := by omega
        subst hj'
        have hE := hrun.out
        rw [runG_end (Nat.le_refl _)] at hE
        have eb : rb = true := by rw [RD3.out, ← hE]; rfl
        have EV := Lib.hid (RV.out vs hE.symm eb)
        have EB := Lib.hid eb
        have OL := Lib.hid (outs_len 0 vs p.o)
        have hvL : vs.length = N + p.s.length := hvl
        have z2 := (FS.out wr BEL.out).2
        have OIN := Lib.hid (show ∀ x ∈ p.o, 0 ≤ x ∧ x < (vs.length : Int) from fun x hx => by have := OUT.out x hx; omega)
        clear hown hbel hE hvl eb hvL
        obtain ⟨wo, rfl⟩ : ∃ wo, wo = wr := ⟨wr, rfl⟩
        have RV2 := Lib.hid (OWN.out.rd)
        have XO := Lib.hid (show Below w.heap.size w wo from XB.out.trans (BEL.out.mono (by have := X1.out; omega)))
        obtain ⟨n, hn⟩ : ∃ n, vs.length = n := ⟨_, rfl⟩
        have HN := Lib.hid hn
        rw [hn]
        clear hn
        go_wp2
        clear z2
        go_loopw [12, 67] (fun ov iv wr => ∃ (k : Nat) (A1 : Option Addr) (c1 : Nat), k ≤ p.o.length ∧ iv = .int .i64 (k : Int) ∧ ov = .slice A1 k c1 ∧ OwI wr wo.heap.size ov (outs 0 vs (p.o.take k)) ∧ Below wo.heap.size wo wr) (fun _ iv _ => p.o.length - (intOf iv).toNat)
        case atStart => exact ⟨0, none, 0, by omega, rfl, rfl, OwI.nil _ _, Below.refl _ _⟩
        case round =>
          obtain ⟨k, A1, c1, hk, rfl, rfl, hown, hbel⟩ := hrel
          have OWN2 := Lib.hid hown
          have BEL2 := Lib.hid hbel
          have hs2' := hbel.size
          by_cases hlt : k < p.o.length
          · obtain ⟨ob, oo, rfl, hob, hoc⟩ := (H.out.2.below' (XO.out.trans (hbel.mono (by omega))) hB).int hlt
            obtain ⟨q1, q2⟩ := OIN.out _ (List.getElem_mem hlt)
            obtain ⟨v, hv⟩ : ∃ v : Nat, p.o[k] = v := ⟨(p.o[k]).toNat, by omega⟩
            rw [hv] at hoc q2
            have hvl : v < vs.length := by omega
            obtain ⟨nb, no, rfl, hnb, hnc⟩ := (RV2.out.below hbel).int hvl
            have E1 := Lib.hid (outs_take vs p.o hlt hv hvl)
            have EL := Lib.hid (show (outs 0 vs (p.o.take k)).length = k by rw [outs_len, List.length_take]; omega)
            obtain ⟨u, hu⟩ : ∃ u, vs[v] = u := ⟨_, rfl⟩
            rw [hu] at hnc E1
            have ik : (k : Int) < (p.o.length : Int) := by omega
            have iv : (v : Int) < (n : Int) := by rw [← HN.out]; omega
            clear hu hv q1 q2 hown hbel hvl
            go_wp2_with (at_builtin; refine list_step (fun K hK => ?_); refine step_app_int rfl (.tmp 71) (.tmp 76) rfl wo.heap.size k _ (outs 0 vs (p.o.take k)) rfl (OWN2.out.alloc _) EL.out wr.heap.size 1 u rfl (by simp) (by omega) (by simp; omega) ?_; intro A3 c3 w3 hown3 hg3 hbel3; go_simp; refine hK _ _ ?_; clear hK K)
            go_roundw
            case rel => exact ⟨k + 1, A3, c3, by omega, by go_num, rfl, by rw [E1.out]; exact hown3, (BEL2.out.alloc hs2' _).trans hbel3⟩
            case measure => simp [intOf]; omega
          · have hk' : k = p.o.length := by omega
            subst hk'
            rw [List.take_of_length_le (Nat.le_refl _)] at OWN2
            clear hown hbel
            go_wp2
            go_ret2
            have hsz2 : w.heap.size ≤ wo.heap.size := XO.out.size
            exact ⟨A1, c1, by rw [EV.out, EB.out, OL.out]; rfl, by rw [EV.out, OL.out]; exact OWN2.out.base hsz2, XO.out.trans (BEL2.out.mono hsz2)⟩
end Go.Proofs.Ytbbjgcagkmlngaa
/- RunResidues of the program. -/
namespace Go.Proofs.Ytbbjgcagkmlngaa
open Go.RowKit
set_option maxRecDepth 100000 in
set_option maxHeartbeats 4000000 in
theorem implRunRes_any (B : Nat) (A0 B0 : Option Addr) (c0 d0 : Nat) (p : Pl) (m : Int) (A2 : Option Addr) (c2 : Nat) (l : List Int) (w : World) (hB : B ≤ w.heap.size) (hs : p.s.length ≤ 1048576) (ho : p.o.length ≤ 1048576) (hl : l.length ≤ 1048576) (_hc : l.length ≤ c2)
    (hr : RdP w B A0 B0 p) (hrl : Rd w B 1 A2 l.length (l.map I)) :
    Calls Try.prog 72 #[.agg #[.int .i64 p.n, .slice A0 p.s.length c0, .slice B0 p.o.length d0], .int .i64 m, .slice A2 l.length c2] w fun e w' =>
      ∃ A' c', e = .returned (.tuple #[.slice A' (rrV p m l).length c', .bool (rrG p m l)]) ∧ OwI w' w.heap.size (.slice A' (rrV p m l).length c') (rrV p m l) ∧ Below w.heap.size w w' := by
  have H := Lib.hid hr
  have HL := Lib.hid hrl
  have RU := Lib.hid (fun W hB hr hrl => runR_any B A0 B0 c0 d0 p m A2 c2 l W hB hs ho hl hr hrl)
  rw [← (rr_run (p := p) (m := m) (l := l)).1, ← (rr_run (p := p) (m := m) (l := l)).2] at RU
  obtain ⟨rv, hrv⟩ : ∃ x, rrV p m l = x := ⟨_, rfl⟩
  obtain ⟨rb, hrb⟩ : ∃ x, rrG p m l = x := ⟨_, rfl⟩
  rw [hrv, hrb] at RU
  rw [hrv, hrb]
  clear hr hrl hrv hrb
  go_enter Try.func72, Try.ntmps72
  go_wp2_with fail
  go_at_call 109
  generalize hw1 : World.alloc w _ = w1
  obtain ⟨x0, x1, x2, xs, xb⟩ := box3 hw1
  clear hw1
  refine (RU.out w1 (by omega) (H.out.below' xb hB) (HL.out.below' xb hB)).mono ?_
  rintro e w2 ⟨A', c', rfl, ho2, hb2⟩
  have HB := Lib.hid (xb.trans (hb2.mono (by omega)))
  have O2 := Lib.hid (ho2.base (show w.heap.size ≤ w1.heap.size by omega))
  clear hb2 xb x0 x1 x2 ho2
  go_wp2
  go_ret2
  exact ⟨A', c', rfl, O2.out, HB.out⟩
end Go.Proofs.Ytbbjgcagkmlngaa
/- Code of registers run on residues, by the model and by the program. -/
namespace Go.Proofs.Ytbbjgcagkmlngaa
open Go.RowKit

theorem rvI_succ {m : Nat} {i l : List Int} {k : Nat} (hk : k < i.length) (hl : k < l.length) : rvI m i l (k + 1) = (rvI m i l k).set (i[k]).toNat l[k] := by
  simp only [rvI]
  rw [show i.getD k 0 = i[k] by simp [hk], show l.getD k 0 = l[k] by simp [hl]]
theorem rvM_succ {q : Nat} {a : List Int} {ops : List (Int × Int × Int)} {k : Nat} (hk : k < ops.length) : rvM q a ops (k + 1) = (rvM q a ops k).set (ops[k]).1.toNat (mulR q (vat (rvM q a ops k) (ops[k]).2.1) (vat (rvM q a ops k) (ops[k]).2.2)) := by
  simp only [rvM]
  rw [show ops.getD k (0, 0, 0) = ops[k] by simp [hk]]
def InM (M : Nat) (l : List Int) : Prop := ∀ x ∈ l, 0 ≤ x ∧ x < (M : Int)
theorem rvI_in {M m : Nat} {i l : List Int} (hM : 1 ≤ M) (hl : InM M l) (he : l.length = i.length) : ∀ k, k ≤ i.length → InM M (rvI m i l k) := by
  intro k
  induction k with
  | zero =>
    intro _ x hx
    have := (List.mem_replicate.1 hx).2
    omega
  | succ k ih =>
    intro hk x hx
    rw [rvI_succ (by omega) (by omega)] at hx
    rcases List.mem_or_eq_of_mem_set hx with h | h
    · exact ih (by omega) x h
    · rw [h]; exact hl _ (List.getElem_mem _)
theorem rvM_in {M : Nat} {a : List Int} {ops : List (Int × Int × Int)} (hM : 1 ≤ M) (ha : InM M a) : ∀ k, k ≤ ops.length → InM M (rvM M a ops k) := by
  intro k
  induction k with
  | zero => intro _; exact ha
  | succ k ih =>
    intro hk x hx
    rw [rvM_succ (by omega)] at hx
    rcases List.mem_or_eq_of_mem_set hx with h | h
    · exact ih (by omega) x h
    · rw [h]
      unfold mulR
      exact ⟨Int.emod_nonneg _ (by omega), Int.emod_lt_of_pos _ (by omega)⟩
theorem InM.at_ {M R r : Nat} {l : List Int} (h : InM M l) (hl : l.length = R) (hr : r < R) : ∃ x : Nat, x < M ∧ vat l (r : Int) = (x : Int) ∧ l.getD r 0 = (x : Int) := by
  have hr' : r < l.length := by omega
  have e : l.getD r 0 = l[r] := by simp [hr']
  obtain ⟨h0, h1⟩ := h _ (List.getElem_mem hr')
  refine ⟨(l[r]).toNat, by omega, ?_, by rw [e]; omega⟩
  unfold vat
  rw [Int.toNat_natCast, e]
  omega

set_option maxRecDepth 100000 in
set_option maxHeartbeats 8000000 in
theorem specRunRc_any (B : Nat) (A1 A2 A3 : Option Addr) (c1 c2 c3 : Nat) (c : Rc) (m : Int) (AL : Option Addr) (cl : Nat) (l : List Int) (w : World) (hB : B ≤ w.heap.size) (hl1 : c.i.length ≤ 1048576) (hl2 : c.ops.length ≤ 1048576) (hl3 : c.o.length ≤ 1048576) (hll : l.length ≤ 1048576) (hcap : c.i.length ≤ c1 ∧ c.ops.length ≤ c2 ∧ c.o.length ≤ c3) (_hcl : l.length ≤ cl) (hr : RdC w B A1 A2 A3 c) (hrl : Rd w B 1 AL l.length (l.map I)) :
    Calls Try.prog 26 #[.agg #[.int .i64 c.r, .slice A1 c.i.length c1, .slice A2 c.ops.length c2, .slice A3 c.o.length c3], .int .i64 m, .slice AL l.length cl] w fun e w' =>
      ∃ E d, e = .returned (.tuple #[.slice E (rrV (rcR c) m l).length d, .bool (rrG (rcR c) m l)]) ∧ OwI w' w.heap.size (.slice E (rrV (rcR c) m l).length d) (rrV (rcR c) m l) ∧ Below w.heap.size w w' := by
  have H := Lib.hid hr
  have HL := Lib.hid hrl
  have RC := fun W hW hrW => reCode_any B A1 A2 A3 c1 c2 c3 c W hW hl1 hl2 hl3 hcap hrW
  clear hr hrl hcap
  obtain ⟨rb, hrb⟩ : ∃ t, rcB c = t := ⟨_, rfl⟩
  rw [hrb] at RC
  have RC := Lib.hid RC
  have HRB := Lib.hid hrb
  have GR := Lib.hid (show rrG (rcR c) m l = (rcB c && (inB m 2 10000 && (decide ((l.length : Int) = (rcR c).n) && allB l 0 (m - 1)))) by
    unfold rrG
    congr 1
    cases h : rcB c with
    | false => rw [rcR_false h]; rfl
    | true =>
      rw [rcR_true h]
      unfold rcB at h
      simp only [Bool.and_eq_true] at h
      exact h.2.2.2)
  clear hrb
  go_enter Try.func26, Try.ntmps26
  go_wp2_with fail
  go_at_call 55
  generalize hw1 : World.alloc w _ = w1
  obtain ⟨⟨x0, x1, x2, x3⟩, xs, xb⟩ := bx4r hw1
  clear hw1
  refine (RC.out w1 (by omega) (H.out.below' xb hB)).mono ?_
  rintro e w2 ⟨rfl, hb2⟩
  have y0 := (hb2.cell (p := ⟨w.heap.size, 0, none⟩) (by simp only []; omega)).trans x0
  have y1 := (hb2.cell (p := ⟨w.heap.size, 1, none⟩) (by simp only []; omega)).trans x1
  have y2 := (hb2.cell (p := ⟨w.heap.size, 2, none⟩) (by simp only []; omega)).trans x2
  have y3 := (hb2.cell (p := ⟨w.heap.size, 3, none⟩) (by simp only []; omega)).trans x3
  have HB2 := Lib.hid (xb.trans (hb2.mono (by omega)))
  have hs2 : w.heap.size + 1 ≤ w2.heap.size := by have := hb2.size; omega
  clear x0 x1 x2 x3 xs xb hb2
  cases rb with
  | false =>
    have EG := Lib.hid (show rrG (rcR c) m l = false by rw [GR.out, HRB.out]; rfl)
    have EV := Lib.hid (rr_bad EG.out)
    go_wp2
    go_ret2
    exact ⟨none, 0, by rw [EG.out, EV.out]; rfl, by rw [EV.out]; exact OwI.nil _ _, HB2.out⟩
  | true =>
  have MO := fun W => moModulus_any m W
  obtain ⟨mb, hmb⟩ : ∃ t, inB m 2 10000 = t := ⟨_, rfl⟩
  rw [hmb] at MO
  have MO := Lib.hid MO
  have HMB := Lib.hid hmb
  clear hmb
  go_wp2_with fail
  go_at_call 69
  refine (MO.out w2).mono ?_
  rintro e w3 ⟨rfl, rfl⟩
  cases mb with
  | false =>
    have EG := Lib.hid (show rrG (rcR c) m l = false by rw [GR.out, HRB.out, HMB.out]; rfl)
    have EV := Lib.hid (rr_bad EG.out)
    go_wp2
    go_ret2
    exact ⟨none, 0, by rw [EG.out, EV.out]; rfl, by rw [EV.out]; exact OwI.nil _ _, HB2.out⟩
  | true =>
  by_cases hlen : (l.length : Int) = (c.i.length : Int)
  case neg =>
    have EG := Lib.hid (show rrG (rcR c) m l = false by
      rw [GR.out, HRB.out, HMB.out, rcR_true HRB.out]
      rw [show (rcP c).n = (c.i.length : Int) from rfl, decide_eq_false hlen]
      rfl)
    have EV := Lib.hid (rr_bad EG.out)
    have hne : ((l.length : Int) != (c.i.length : Int)) = true := by simpa using hlen
    clear hlen
    go_wp2
    go_ret2
    exact ⟨none, 0, by rw [EG.out, EV.out]; rfl, by rw [EV.out]; exact OwI.nil _ _, HB2.out⟩
  case pos =>
  have hm : 2 ≤ m ∧ m ≤ 10000 := by have := HMB.out; unfold inB at this; simpa using this
  obtain ⟨M, rfl⟩ : ∃ M : Nat, m = (M : Int) := ⟨m.toNat, by omega⟩
  have hM2 : 2 ≤ M := by omega
  have hM4 : M ≤ 10000 := by omega
  have hne : ((l.length : Int) != (c.i.length : Int)) = false := by simpa using hlen
  have hlc : l.length = c.i.length := by omega
  have LA := fun W hrW => l1All_any B AL cl l 0 ((M : Int) - 1) W (by omega) hrW
  have hw1 : IntKind.i64.wrap ((M : Int) - 1) = (M : Int) - 1 := IntWalk.i64_in _ (by omega)
  obtain ⟨ab, hab⟩ : ∃ t, allB l 0 ((M : Int) - 1) = t := ⟨_, rfl⟩
  rw [hab] at LA
  have LA := Lib.hid LA
  have HAB := Lib.hid hab
  have HLC := Lib.hid hlc
  have EGg := Lib.hid (show rrG (rcR c) (M : Int) l = ab by
    rw [GR.out, HRB.out, HMB.out, rcR_true HRB.out, hab]
    rw [show (rcP c).n = (c.i.length : Int) from rfl, decide_eq_true hlen]
    simp)
  clear hab hlc hlen hm
  go_wp2_with fail
  go_at_call 70
  refine (LA.out w2 (HL.out.below' HB2.out hB)).mono ?_
  rintro e w3 ⟨rfl, rfl⟩
  cases ab with
  | false =>
    have EV := Lib.hid (rr_bad EGg.out)
    go_wp2
    go_ret2
    exact ⟨none, 0, by rw [EGg.out, EV.out]; rfl, by rw [EV.out]; exact OwI.nil _ _, HB2.out⟩
  | true =>
  obtain ⟨R, hR, r1, r46, i1, i6, p40, o6, hnd, hin, hop, hou, hgd⟩ := rcB_facts HRB.out
  have hinM : InM M l := by
    have h := HAB.out
    intro x hx
    have := List.all_eq_true.1 h x hx
    unfold inB at this
    simp only [Bool.and_eq_true, decide_eq_true_eq] at this
    omega
  have HIN := Lib.hid hin
  have HOP := Lib.hid hop
  have HOU := Lib.hid hou
  have RI := Lib.hid (fun k hk => rvI_in (m := R) (k := k) (i := c.i) (show 1 ≤ M by omega) hinM HLC.out hk)
  have RM := Lib.hid (fun k hk => rvM_in (k := k) (ops := c.ops) (show 1 ≤ M by omega) (RI.out c.i.length (Nat.le_refl _)) hk)
  have HOUT := Lib.hid (show ∃ V, rrV (rcR c) (M : Int) l = outs 0 V (rcP c).o ∧ runG (inR (M : Int)) (mulR M) 0 l (rcP c).s = some V by
    obtain ⟨M', N', V, e1, e2, _, _, _, _, _, _, _, _, _, hV, _⟩ := rr_good EGg.out
    have eM : M' = M := by omega
    subst eM
    rw [rcR_true HRB.out] at hV
    refine ⟨V, ?_, hV⟩
    unfold rrV
    rw [EGg.out, rcR_true HRB.out]
    simp only [if_true, Int.toNat_natCast]
    rw [hV]
    rfl)
  have RV := Lib.hid (fun V (hV : runG (inR (M : Int)) (mulR M) 0 l (rcP c).s = some V) => rv_outs (m := (M : Int)) HRB.out hR HLC.out (by rw [Int.toNat_natCast]; exact hV))
  rw [hR] at y0
  have HR := Lib.hid hR
  have hmk := run_make_row' (P := Try.prog) 22 3 (.int .i64 0) 8 Try.underlying22 info_int rfl .i64 .i64 R (by omega) (by omega)
  have HM := Lib.hid (zeros_row (w := w2) (B := w2.heap.size) R (by omega) (Nat.le_refl _))
  have Y1 := cell_kept y1
  clear hin hop hou hgd hnd hinM hR
  go_wp2
  clear hmk Y1
  generalize hw3 : World.alloc w2 _ = w3
  have hown3 : w3.ownsRow w2.heap.size 3 1 (.slice (some ⟨w2.heap.size, 0, none⟩) R R) R ((rvI R c.i l 0).map I) := by
    rw [← hw3]
    have h := HM.out
    simpa [rvI, I] using h
  have hb3 : Below w2.heap.size w2 w3 := by rw [← hw3]; exact (Below.refl _ _).alloc (Nat.le_refl _) _
  have hs3 : w2.heap.size + 1 = w3.heap.size := by rw [← hw3]; simp
  clear hw3
  have OW3 := Lib.hid hown3
  have HB3 := Lib.hid hb3
  clear hown3 hb3
  go_loopw [42] (fun iv wr => ∃ k : Nat, k ≤ c.i.length ∧ iv = .int .i64 k ∧ wr.ownsRow w2.heap.size 3 1 (.slice (some ⟨w2.heap.size, 0, none⟩) R R) R ((rvI R c.i l k).map I) ∧ Below w2.heap.size w2 wr) (fun i _ => c.i.length - (intOf i).toNat)
  case atStart => exact ⟨0, by omega, rfl, OW3.out, HB3.out⟩
  case round =>
    obtain ⟨k, hk, rfl, hown, hbel⟩ := hrel
    have OW := Lib.hid hown
    have BEL := Lib.hid hbel
    have HBW := Lib.hid (HB2.out.trans (hbel.mono HB2.out.size))
    have hgs := (own_block hown w2.heap.size rfl).2
    by_cases hlt : k < c.i.length
    · have iqk : (k : Int) < (c.i.length : Int) := by omega
      have hlt2 : k < l.length := by have := HLC.out; omega
      have iql : (k : Int) < (l.length : Int) := by omega
      obtain ⟨b, off, rfl, hb, hc⟩ := (H.out.below' HBW.out hB).1.int hlt
      obtain ⟨b2, off2, rfl, hb2, hc2⟩ := (HL.out.below' HBW.out hB).int hlt2
      obtain ⟨v0, v1⟩ := HIN.out _ (List.getElem_mem hlt)
      obtain ⟨v, hv⟩ : ∃ v : Nat, c.i[k] = v := ⟨(c.i[k]).toNat, by omega⟩
      obtain ⟨y, hy⟩ : ∃ y, l[k] = y := ⟨_, rfl⟩
      have SUC := Lib.hid (show rvI R c.i l (k + 1) = (rvI R c.i l k).set v y by rw [rvI_succ hlt hlt2, hv, hy]; rfl)
      have d0 := OwI.cellD hown (show v < R by omega)
      have f0 := World.ownsRow.frozenAt hown v
      have ivR : (v : Int) < (R : Int) := by omega
      rw [hv] at hc
      rw [hy] at hc2
      clear hv hy v0 v1 hown hbel
      go_wp2
      go_roundw
      case rel => exact ⟨k + 1, by omega, by go_num, by rw [SUC.out]; exact OwI.set OW.out _, BEL.out.setCell (Nat.le_refl _) _⟩
      case measure => simp [intOf]; omega
    · have hk' : k = c.i.length := by omega
      have OW0 := Lib.hid (show wr.ownsRow w2.heap.size 3 1 (.slice (some ⟨w2.heap.size, 0, none⟩) R R) R ((rvM M (rvI R c.i l c.i.length) c.ops 0).map I) by have h := OW.out; rw [hk'] at h; exact h)
      have z2 := (hbel.cell (p := ⟨w.heap.size, 2, none⟩) (by simp only []; omega)).trans y2
      clear hk' OW hown hbel y2
      go_wp2
      go_loopw [58] (fun iv wq => ∃ n : Nat, n ≤ c.ops.length ∧ iv = .int .i64 n ∧ wq.ownsRow w2.heap.size 3 1 (.slice (some ⟨w2.heap.size, 0, none⟩) R R) R ((rvM M (rvI R c.i l c.i.length) c.ops n).map I) ∧ Below w2.heap.size w2 wq) (fun i _ => c.ops.length - (intOf i).toNat)
      case atStart => exact ⟨0, by omega, rfl, OW0.out, BEL.out⟩
      case round =>
        obtain ⟨n, hn, rfl, hown, hbel⟩ := hrel
        have OW := Lib.hid hown
        have BL := Lib.hid hbel
        have HBWq := Lib.hid (HB2.out.trans (hbel.mono HB2.out.size))
        have hgs := (own_block hown w2.heap.size rfl).2
        have lvm : (rvM M (rvI R c.i l c.i.length) c.ops n).length = R := by rw [rvM_len, rvI_len]
        by_cases hlt : n < c.ops.length
        · have iqn : (n : Int) < (c.ops.length : Int) := by omega
          obtain ⟨b, off, rfl, hb, hc1, hc2, hc3⟩ := (H.out.below' HBWq.out hB).2.1.op hlt
          obtain ⟨t, a, d, hx, ht, ha, hd⟩ := opIn_nat (HOP.out _ (List.getElem_mem hlt))
          obtain ⟨xv, xM, ex, ex'⟩ := (RM.out n hn).at_ lvm ha
          obtain ⟨yv, yM, ey, ey'⟩ := (RM.out n hn).at_ lvm hd
          have da := OwI.cellD hown ha
          have dd := OwI.cellD hown hd
          have dt := OwI.cellD hown ht
          have ft := World.ownsRow.frozenAt hown t
          rw [ex'] at da
          rw [ey'] at dd
          obtain ⟨u, hu⟩ : ∃ u, (rvM M (rvI R c.i l c.i.length) c.ops n).getD t 0 = u := ⟨_, rfl⟩
          rw [hu] at dt
          have SUC := Lib.hid (show rvM M (rvI R c.i l c.i.length) c.ops (n + 1) = (rvM M (rvI R c.i l c.i.length) c.ops n).set t ((xv * yv % M : Nat) : Int) by
            rw [rvM_succ hlt, hx]
            simp only
            rw [ex, ey]
            unfold mulR
            rw [show (xv : Int) * (yv : Int) = ((xv * yv : Nat) : Int) by push_cast; rfl]
            rw [Int.toNat_natCast]
            congr 1)
          have w2' : IntKind.i64.wrap ((xv : Int) * (yv : Int)) = ((xv * yv : Nat) : Int) := wrapP hM4 xM yM
          obtain ⟨Q, hQ⟩ : ∃ Q, xv * yv = Q := ⟨_, rfl⟩
          rw [hQ] at w2' SUC
          have nM0 : ¬ M = 0 := by omega
          have hT := tmodN Q M
          rw [hx] at hc1 hc2 hc3
          simp only at hc1 hc2 hc3
          have iaR : (a : Int) < (R : Int) := by omega
          have idR : (d : Int) < (R : Int) := by omega
          have itR : (t : Int) < (R : Int) := by omega
          clear hx hown hbel lvm ex ex' ey ey' hQ hu xM yM
          go_wp2
          generalize hw5 : World.alloc wr _ = w5
          obtain ⟨⟨e0, e1, e2⟩, es, eb⟩ := box3' hw5
          clear hw5
          have OW5 := Lib.hid (own_below OW.out eb)
          have BL5 := Lib.hid (BL.out.trans (eb.mono (show w2.heap.size ≤ wr.heap.size by omega)))
          have ga := (eb.cell (p := ⟨w2.heap.size, a, none⟩) hgs).trans da
          have gd := (eb.cell (p := ⟨w2.heap.size, d, none⟩) hgs).trans dd
          have gt := (eb.cell (p := ⟨w2.heap.size, t, none⟩) hgs).trans dt
          have ff := World.ownsRow.frozenAt OW5.out t
          clear da dd dt ft hc1 hc2 hc3 eb
          have FS := Lib.hid (show ∀ x, Below w5.heap.size w5 x → x.cell? ⟨wr.heap.size, 0, none⟩ = some (.int .i64 t) ∧ x.cell? ⟨wr.heap.size, 1, none⟩ = some (.int .i64 a) ∧ x.cell? ⟨wr.heap.size, 2, none⟩ = some (.int .i64 d) ∧ x.cell? ⟨w2.heap.size, a, none⟩ = some (.int .i64 xv) ∧ x.cell? ⟨w2.heap.size, d, none⟩ = some (.int .i64 yv) from fun z hz =>
            ⟨(hz.cell (p := ⟨wr.heap.size, 0, none⟩) (by simp only []; omega)).trans e0, (hz.cell (p := ⟨wr.heap.size, 1, none⟩) (by simp only []; omega)).trans e1, (hz.cell (p := ⟨wr.heap.size, 2, none⟩) (by simp only []; omega)).trans e2, (hz.cell (p := ⟨w2.heap.size, a, none⟩) (by simp only []; omega)).trans ga, (hz.cell (p := ⟨w2.heap.size, d, none⟩) (by simp only []; omega)).trans gd⟩)
          have S0 := Lib.hid (show Below w5.heap.size w5 w5.drew from (Below.refl _ _).drew)
          clear e0 e1 e2 ga gd
          refine wp_region_T (fun x : World => Below w5.heap.size w5 x) [0, 1, 2, 3, 4, 5, 6, 7, 8, 9, 10, 11, 12, 13, 14, 15, 16] [2, 5, 7, 10, 12] (.lp 0 (.lp 1 (.lp 3 (.lp 4 (.lp 8 (.lp 9 (.lp 14 (.ls 2 (.ls 5 (.lp 6 (.ls 7 (.ls 10 (.lp 11 (.ls 12 (.lp 13 (.lp 15 (.lp 16 (.hv 17 (.done))))))))))))))))))) (by kernel_rfl) (by kernel_rfl) ?_
          (repeat (refine T_lp rfl (fun K hK => ?_); go_simp; refine hK _ ?_; clear hK K))
          refine T_ls1 (v := .int .i64 t) rfl rfl S0.out (fun x hx => (by obtain ⟨h0, h1, h2, h3, h4⟩ := FS.out x hx; go_simp)) (fun K hK => ?_)
          (go_simp; refine hK _ ?_; clear hK K)
          refine T_ls1 (v := .int .i64 a) rfl rfl S0.out (fun x hx => (by obtain ⟨h0, h1, h2, h3, h4⟩ := FS.out x hx; go_simp)) (fun K hK => ?_)
          (go_simp; refine hK _ ?_; clear hK K)
          (repeat (refine T_lp rfl (fun K hK => ?_); go_simp; refine hK _ ?_; clear hK K))
          refine T_ls1 (v := .int .i64 xv) rfl rfl S0.out (fun x hx => (by obtain ⟨h0, h1, h2, h3, h4⟩ := FS.out x hx; go_simp)) (fun K hK => ?_)
          (go_simp; refine hK _ ?_; clear hK K)
          refine T_ls1 (v := .int .i64 d) rfl rfl S0.out (fun x hx => (by obtain ⟨h0, h1, h2, h3, h4⟩ := FS.out x hx; go_simp)) (fun K hK => ?_)
          (go_simp; refine hK _ ?_; clear hK K)
          (repeat (refine T_lp rfl (fun K hK => ?_); go_simp; refine hK _ ?_; clear hK K))
          refine T_ls1 (v := .int .i64 yv) rfl rfl S0.out (fun x hx => (by obtain ⟨h0, h1, h2, h3, h4⟩ := FS.out x hx; go_simp)) (fun K hK => ?_)
          (go_simp; refine hK _ ?_; clear hK K)
          (repeat (refine T_lp rfl (fun K hK => ?_); go_simp; refine hK _ ?_; clear hK K))
          (refine T_hv rfl (by kernel_rfl) (fun K hK => ?_); go_simp; refine hK _ _ ?_; clear hK K)
          refine T_done ?_
          go_wp2
          go_roundw
          case rel => exact ⟨n + 1, by omega, by go_num, by rw [SUC.out]; exact OwI.set (show w5.drew.ownsRow _ _ _ _ _ _ from OW5.out) _, BL5.out.drew.setCell (Nat.le_refl _) _⟩
          case measure => simp [intOf]; omega
        · have hn' : n = c.ops.length := by omega
          subst hn'
          obtain ⟨V, hV1, hV2⟩ := HOUT.out
          have e1 := RV.out V hV2
          rw [Int.toNat_natCast] at e1
          have EQ := Lib.hid (show rrV (rcR c) (M : Int) l = outs 0 (rvM M (rvI R c.i l c.i.length) c.ops c.ops.length) c.o from hV1.trans e1.symm)
          have y3' := (hbel.cell (p := ⟨w.heap.size, 3, none⟩) (by simp only []; omega)).trans y3
          have hpk := moPick_any wr.heap.size (some ⟨w2.heap.size, 0, none⟩) A3 R c3 (rvM M (rvI R c.i l c.i.length) c.ops c.ops.length) c.o wr (by omega) (Nat.le_refl _) (by rw [lvm]; exact HOU.out) (by rw [lvm]; exact Rd.of_own OW.out) ((H.out.below' HBWq.out hB).2.2.more (by have := HBWq.out.size; omega))
          rw [lvm] at hpk
          have PK := Lib.hid hpk
          clear hV1 hV2 e1 hpk lvm hown hbel
          go_wp2_with fail
          go_at_call 71
          refine PK.out.mono ?_
          rintro e w5 ⟨E, d, rfl, hO, hb5⟩
          have O5 := Lib.hid (OwI.base hO (show w.heap.size ≤ wr.heap.size by have := HBWq.out.size; omega))
          have HB5 := Lib.hid (HBWq.out.trans (hb5.mono HBWq.out.size))
          clear hO hb5
          go_wp2
          go_ret2
          exact ⟨E, d, by rw [EGg.out, EQ.out, outs_len]; rfl, by rw [EQ.out, outs_len]; exact O5.out, HB5.out⟩

set_option maxRecDepth 100000 in
set_option maxHeartbeats 4000000 in
theorem implRunRc_any (B : Nat) (A1 A2 A3 : Option Addr) (c1 c2 c3 : Nat) (c : Rc) (m : Int) (AL : Option Addr) (cl : Nat) (l : List Int) (w : World) (hB : B ≤ w.heap.size) (hl1 : c.i.length ≤ 1048576) (hl2 : c.ops.length ≤ 1048576) (hl3 : c.o.length ≤ 1048576) (hll : l.length ≤ 1048576) (hcap : c.i.length ≤ c1 ∧ c.ops.length ≤ c2 ∧ c.o.length ≤ c3) (hcl : l.length ≤ cl) (hr : RdC w B A1 A2 A3 c) (hrl : Rd w B 1 AL l.length (l.map I)) :
    Calls Try.prog 28 #[.agg #[.int .i64 c.r, .slice A1 c.i.length c1, .slice A2 c.ops.length c2, .slice A3 c.o.length c3], .int .i64 m, .slice AL l.length cl] w fun e w' =>
      ∃ E d, e = .returned (.tuple #[.slice E (rrV (rcR c) m l).length d, .bool (rrG (rcR c) m l)]) ∧ OwI w' w.heap.size (.slice E (rrV (rcR c) m l).length d) (rrV (rcR c) m l) ∧ Below w.heap.size w w' := by
  have H := Lib.hid hr
  have HL := Lib.hid hrl
  have RP := fun W hW hrW => implRcPlan_any B A1 A2 A3 c1 c2 c3 c W hW hl1 hl2 hl3 hcap hrW
  have rl := rcR_len c
  obtain ⟨q, hq⟩ : ∃ q, rcR c = q := ⟨_, rfl⟩
  rw [hq] at RP rl ⊢
  obtain ⟨rl1, rl2⟩ := rl
  have RP := Lib.hid RP
  clear hr hrl hcap hq
  go_enter Try.func28, Try.ntmps28
  go_wp2_with fail
  go_at_call 21
  generalize hw1 : World.alloc w _ = w1
  obtain ⟨_, xs, xb⟩ := bx4r hw1
  clear hw1
  refine (RP.out w1 (by omega) (H.out.below' xb hB)).mono ?_
  rintro e w2 ⟨E1, E2, e1, e2, rfl, hown, hb2⟩
  have HB2 := Lib.hid (xb.trans (hb2.mono (by omega)))
  have OWN := Lib.hid hown
  clear hown hb2 xb
  go_wp2_with fail
  go_at_call 72
  generalize hw3 : World.alloc w2 _ = w3
  obtain ⟨_, es, eb⟩ := bx3r hw3
  clear hw3
  have HB3 := Lib.hid (HB2.out.trans (eb.mono HB2.out.size))
  refine (implRunRes_any w3.heap.size E1 E2 e1 e2 q m AL cl l w3 (Nat.le_refl _) (by omega) (by omega) hll hcl (OWN.out.below eb).rd ((HL.out.below' HB3.out hB).more (by have := HB3.out.size; omega))).mono ?_
  rintro e w4 ⟨E, d, rfl, hO, hb4⟩
  have O4 := Lib.hid (OwI.base hO (show w.heap.size ≤ w3.heap.size from HB3.out.size))
  have HB4 := Lib.hid (HB3.out.trans (hb4.mono HB3.out.size))
  clear hO hb4
  go_wp2
  go_ret2
  exact ⟨E, d, rfl, O4.out, HB4.out⟩
end Go.Proofs.Ytbbjgcagkmlngaa
