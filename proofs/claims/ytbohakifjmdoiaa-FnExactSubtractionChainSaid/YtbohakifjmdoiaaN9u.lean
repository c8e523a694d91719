/- The chain of a number's sparse form: as data; of the program. -/
import Derived.Test.YtbohakifjmdoiaaN9n
import Derived.Test.YtbohakifjmdoiaaN9q
import Derived.Test.YtbohakifjmdoiaaRn
import Derived.Test.YtbohakifjmdoiaaQj
import Derived.Test.YtbohakifjmdoiaaN9v
namespace Go.Proofs.Ytbohakifjmdoiaa
open Go.RowKit Go.Shelf

attribute [local go_sem] Oper.semAt_some

/-- The last number of a list. -/
def lst (l : List Int) : Int := l.getLast?.getD 0
theorem lst_snoc (l : List Int) (x : Int) : lst (l ++ [x]) = x := by simp [lst]
/-- A round of the chain of a number: of the document, and with what the program's numbers do. -/
def scS (acc : List Int) (x : Nat × Int) : List Int := if x.2 = 0 then acc ++ [2 * lst acc] else acc ++ [2 * lst acc] ++ [2 * lst acc + x.2]
def scW (acc : List Int) (x : Nat × Int) : List Int := if x.2 = 0 then acc ++ [wrap64 (2 * lst acc)] else acc ++ [wrap64 (2 * lst acc)] ++ [wrap64 (wrap64 (2 * lst acc) + x.2)]
def sc (p : List (Nat × Int)) : List Int := p.foldl scS [1]
def scw (p : List (Nat × Int)) : List Int := p.foldl scW [1]
theorem sc_snoc (p : List (Nat × Int)) (x : Nat × Int) : sc (p ++ [x]) = scS (sc p) x := by simp [sc]
theorem scw_snoc (p : List (Nat × Int)) (x : Nat × Int) : scw (p ++ [x]) = scW (scw p) x := by simp [scw]
theorem scw_len (p : List (Nat × Int)) : 1 ≤ (scw p).length ∧ (scw p).length ≤ 1 + 2 * p.length := by
  suffices h : ∀ (p : List (Nat × Int)) (acc : List Int), acc.length ≤ (p.foldl scW acc).length ∧ (p.foldl scW acc).length ≤ acc.length + 2 * p.length by
    have := h p [1]
    simpa [scw] using this
  intro p
  induction p with
  | nil => intro acc; simp
  | cons x p ih =>
    intro acc
    have h1 := ih (scW acc x)
    have h2 : acc.length ≤ (scW acc x).length ∧ (scW acc x).length ≤ acc.length + 2 := by
      unfold scW
      split <;> simp
    simp only [List.foldl_cons, List.length_cons]
    omega
/-- With digits all is small, at least 1, and both are the same. -/
theorem sc_ok : ∀ (p : List (Nat × Int)) (acc : List Int) (k : Nat), p.length + k ≤ 40 → (∀ x ∈ p, -1 ≤ x.2 ∧ x.2 ≤ 1) → (∀ v ∈ acc, 1 ≤ v ∧ v < 2 ^ (k + 1)) → (1 ≤ lst acc ∧ lst acc < 2 ^ (k + 1)) →
    p.foldl scW acc = p.foldl scS acc ∧ (∀ v ∈ p.foldl scS acc, 1 ≤ v ∧ v < 2 ^ (k + p.length + 1)) ∧ (1 ≤ lst (p.foldl scS acc) ∧ lst (p.foldl scS acc) < 2 ^ (k + p.length + 1)) := by
  intro p
  induction p with
  | nil => intro acc k _ _ h1 h2; exact ⟨rfl, h1, h2⟩
  | cons x p ih =>
    intro acc k hk hx h1 h2
    have hd := hx x (by simp)
    have hp : ∀ y ∈ p, -1 ≤ y.2 ∧ y.2 ≤ 1 := fun y hy => hx y (by simp [hy])
    have e2 : (2 : Int) ^ (k + 1 + 1) = 2 * 2 ^ (k + 1) := by rw [Int.pow_succ 2 (k + 1), Int.mul_comm]
    have hP : (2 : Int) ^ (k + 1) ≤ 2199023255552 := by
      have h : 2 ^ (k + 1) ≤ 2 ^ 41 := Nat.pow_le_pow_right (by omega) (by simp at hk; omega)
      have h' : ((2 ^ (k + 1) : Nat) : Int) ≤ 2199023255552 := by omega
      simpa using h'
    obtain ⟨P, hPe⟩ : ∃ P : Int, 2 ^ (k + 1) = P := ⟨_, rfl⟩
    rw [hPe] at e2 hP h1 h2
    obtain ⟨m, hm⟩ : ∃ m, lst acc = m := ⟨_, rfl⟩
    rw [hm] at h2
    have w1 : wrap64 (2 * m) = 2 * m := by unfold wrap64; omega
    have w2 : wrap64 (2 * m + x.2) = 2 * m + x.2 := by unfold wrap64; omega
    have hS : scW acc x = scS acc x := by
      unfold scW scS
      rw [hm, w1, w2]
    have hall : ∀ v ∈ scS acc x, 1 ≤ v ∧ v < 2 ^ (k + 1 + 1) := by
      intro v hv
      rw [e2]
      unfold scS at hv
      rw [hm] at hv
      split at hv
      · rcases List.mem_append.1 hv with h | h
        · have := h1 v h; omega
        · simp at h; omega
      · rcases List.mem_append.1 hv with h | h
        · rcases List.mem_append.1 h with h | h
          · have := h1 v h; omega
          · simp at h; omega
        · simp at h; omega
    have hlst : 1 ≤ lst (scS acc x) ∧ lst (scS acc x) < 2 ^ (k + 1 + 1) := by
      rw [e2]
      unfold scS
      rw [hm]
      split
      · rw [lst_snoc]; omega
      · rw [lst_snoc]; omega
    have h3 := ih (scS acc x) (k + 1) (by simp at hk; omega) hp hall hlst
    simp only [List.foldl_cons, List.length_cons]
    rw [hS, show k + (p.length + 1) + 1 = k + 1 + p.length + 1 by omega]
    exact h3
theorem allB_max {l : List Int} {m : Int} (h1 : ∀ v ∈ l, 1 ≤ v) (hm : m ∈ l) (hmx : ∀ v ∈ l, v ≤ m) : allB l 1 1000000 = decide (m ≤ 1000000) := by
  rw [Bool.eq_iff_iff]
  unfold allB inB
  simp only [List.all_eq_true, Bool.and_eq_true, decide_eq_true_eq]
  constructor
  · intro h; exact (h m hm).2
  · intro h v hv; have := hmx v hv; have := h1 v hv; omega

/-- The chain of a number. -/
def chF (n : Int) : List Int := sc (bwZ (wnD 4 n).dropLast (wnD 4 n).dropLast.length)
def chB (n : Int) : Bool := isNum n && allB (chF n) 1 1000000
def chR (n : Int) : List Int := if chB n then chF n else []
theorem chF_q {n : Int} {q : List Int} {d : Int} (e : wnD 4 n = q ++ [d]) : chF n = sc (bwZ q q.length) := by unfold chF; rw [e, List.dropLast_concat]
theorem bwZ_mem {q : List Int} (h : ∀ d ∈ q, -1 ≤ d ∧ d ≤ 1) : ∀ x ∈ bwZ q q.length, -1 ≤ x.2 ∧ x.2 ≤ 1 := by
  intro x hx
  have : x.2 ∈ (bwZ q q.length).map (·.2) := List.mem_map.2 ⟨x, hx, rfl⟩
  rw [bwZ_rev] at this
  exact h x.2 (by simpa using this)
theorem sc_all {q : List Int} (h : ∀ d ∈ q, -1 ≤ d ∧ d ≤ 1) (hl : q.length ≤ 30) : scw (bwZ q q.length) = sc (bwZ q q.length) ∧ ∀ v ∈ sc (bwZ q q.length), 1 ≤ v := by
  have hb : (bwZ q q.length).length = q.length := bwd_length _ _ _
  have := sc_ok (bwZ q q.length) [1] 0 (by omega) (bwZ_mem h) (by simp) (by simp [lst])
  exact ⟨this.1, fun v hv => (this.2.1 v hv).1⟩
theorem wrap_i64_64 (x : Int) : IntKind.i64.wrap x = wrap64 x := by rw [IntKind.wrap_i64]; unfold wrap64; omega
theorem info_int9 : (Try.prog.info? 3).map (fun i => (i.zero, i.size, i.bytes)) = some (some (I 0), 1, 8) := by kernel_rfl
theorem chR_len (n : Int) (h : isNum n = true) : (chF n).length ≤ 100 := by
  have h2 : 1 ≤ n ∧ n ≤ 1000000 := by simpa [isNum, inB] using h
  have hl := wnD_len28 (T := 4) (n := n) (.inl rfl) (by omega)
  have hm := wnD_mem4 n.natAbs n (Nat.le_refl _)
  have hq : ∀ d ∈ (wnD 4 n).dropLast, -1 ≤ d ∧ d ≤ 1 := fun d hd => hm d (List.dropLast_subset _ hd)
  have hq2 : (wnD 4 n).dropLast.length ≤ 27 := by rw [List.length_dropLast]; omega
  have hw := (sc_all hq (by omega)).1
  have hlen := (scw_len (bwZ (wnD 4 n).dropLast (wnD 4 n).dropLast.length)).2
  have hb : (bwZ (wnD 4 n).dropLast (wnD 4 n).dropLast.length).length = (wnD 4 n).dropLast.length := bwd_length _ _ _
  unfold chF
  rw [← hw]
  omega
theorem chR_le (n : Int) : (chR n).length ≤ 1000 := by
  unfold chR
  split
  · rename_i h
    unfold chB at h
    simp only [Bool.and_eq_true] at h
    have := chR_len n h.1
    omega
  · simp
theorem cell_one_at9 (w : World) (a : Value) (t : TypeId) : ∀ j u, [a][j]? = some u → (w.alloc (.cells #[a] t)).cell? ((⟨w.heap.size, 0, none⟩ : Addr).add j) = some u := by
  intro j u hj
  match j, hj with
  | 0, hj => simp at hj; subst hj; rw [show ((⟨w.heap.size, 0, none⟩ : Addr).add 0) = ⟨w.heap.size, 0, none⟩ from rfl, cell_of_row _ _ 0 _ _ (0, 0) (heap_alloc_new w _)]; rfl
/-- append of own elements, one operation inside a fence. -/
theorem stepIn_app {F : Fence} {n : Nat} {P : Program} (w : World) {ops : Array Oper} {o : Oper} {a : Act} {K : Act → World → Prop} {Q : Exit → Act → World → Prop} {E : Prop}
    (hg : o.guard = none) (s x : Operand) (t : TypeId) (hop : o.op = Op.call { callee := Callee.builtin Builtin.append, args := #[s, x], argTypes := #[t, t] })
    (base : Nat) (e : TypeId) (i : TypeInfo) (z : Value) (size bytes : Nat) (h1 : P.underlying t = some (.slice e)) (h2 : P.info? e = some i) (h3 : i.zero = some z) (h4 : i.size = size) (h5 : i.bytes = bytes) (h6 : z.cells.size = size) (h7 : 0 < size)
    (v : Value) (k : Nat) (xs : List Value) (hs : a.eval s = v) (hown : w.ownsRow base e size v k xs) (ad : Addr) (m c : Nat) (news : List Value) (hx : a.eval x = .slice (some ad) m c) (hn : news.length = m * size)
    (hc : ∀ j u, news[j]? = some u → w.cell? (ad.add j) = some u) (h1c : ∀ u ∈ news, u.oneCell' = true) (b1 : k + m ≤ maxLen) (b2 : (k + m) * bytes ≤ 140737488355328) (b3 : base ≤ w.heap.size)
    (hK : ∀ v' w', w'.ownsRow base e size v' (k + m) (xs ++ news) → w.grownBy w' v.ownBlock → K (a.put o.dst v') w') :
    if Region.wanted o (yielded ops a.tmps) = true then o.wpIn F n P a w K Q else E := by
  rw [if_pos (by simp [Region.wanted, hg])]
  obtain ⟨v', w', hrun, r1, r2, _⟩ := run_append_own (P := P) w base t o.type e i z size bytes h1 h2 h3 h4 h5 h6 h7 v k xs hown ad m c news hn hc h1c b1 b2 b3
  unfold Oper.wpIn
  refine ⟨?_, ?_⟩
  · simp [Oper.about, hop, resolve, Target.leads, Sem.run_pure]
  · rw [Oper.semAt_plain F _ _ (by rw [hop]; intro c hc'; cases hc')]
    simp [execOp, hop, resolve, invoke, builtin, hs, hx, hrun, Result.andThen, Oper.uponIn]
    exact hK v' w' r1 r2

set_option maxHeartbeats 1000000 in
theorem endOf_any (B : Nat) (A : Option Addr) (c N : Nat) (l : List Int) (w : World) (hl : l.length = N + 1) (hm : N ≤ 1000000) (hr : Rd w B 1 A l.length (l.map I)) :
    Calls Try.prog 69 #[.slice A (N + 1) c] w fun e w' => e = .returned (.int .i64 (lst l)) ∧ w = w' := by
  have hp : N < l.length := by omega
  obtain ⟨b, off, rfl, hb, hc⟩ := hr.int hp
  have E := Lib.hid (show lst l = l[N] by unfold lst; rw [List.getLast?_eq_getElem?, hl, Nat.add_sub_cancel, List.getElem?_eq_getElem hp]; rfl)
  obtain ⟨x, hx⟩ : ∃ x, l[N] = x := ⟨_, rfl⟩
  rw [hx] at hc E
  have e1 : ((N : Int) + 1) - 1 = (N : Int) := by omega
  clear hr hl hx hp
  go_enter Try.func69, Try.ntmps69
  go_wp2
  go_ret
  exact ⟨ret_int (by rw [E.out]), rfl⟩

set_option maxRecDepth 100000 in
set_option maxHeartbeats 8000000 in
theorem implChain_any (n : Int) (w : World) (hn1 : 1 ≤ n) (hn : n ≤ 1000000) :
    Calls Try.prog 32 #[.int .i64 n] w fun e w' =>
      ∃ A' c', e = .returned (.tuple #[.slice A' (chR n).length c', .bool (chB n)]) ∧ OwI w' w.heap.size (.slice A' (chR n).length c') (chR n) ∧ Below w.heap.size w w' := by
  have hD := fun W => windowDigits_any n 2 4 W (.inl ⟨rfl, rfl⟩) (by omega) hn
  have hDl := wnD_len28 (T := 4) (n := n) (.inl rfl) (by omega)
  obtain ⟨q, dl, eq, _, _⟩ := wnD_split hn1
  have ECF := Lib.hid (chF_q eq)
  have hmem := wnD_mem4 n.natAbs n (Nat.le_refl _)
  rw [eq] at hmem
  have HQM := Lib.hid (show ∀ d ∈ q, -1 ≤ d ∧ d ≤ 1 from fun d hd => hmem d (by simp [hd]))
  obtain ⟨T, hT⟩ : ∃ T, q.length = T := ⟨_, rfl⟩
  have hDT : (q ++ [dl]).length = T + 1 := by rw [List.length_append, hT]; rfl
  rw [eq] at hD hDl
  rw [hDT] at hD hDl
  have HD := Lib.hid hD
  have QT := Lib.hid hT
  have QL := Lib.hid hDT
  have hT28 : T ≤ 27 := by omega
  have HE := Lib.hid (show isNum n = true by simp [isNum, inB, hn1, hn])
  clear hD eq hT hDT hDl hn1 hn hmem
  refine (callsIn_wide (n := 3)).1 ?_
  refine callsIn_of_wp_marks Try.func32 rfl trivial ?_ rfl
  simp only [Try.ntmps32, List.size_toArray, List.length_cons, List.length_nil, Nat.reduceAdd, Nat.reduceSub, Array.replicate_succ, Array.replicate_zero, List.push_toArray, List.append_toArray, List.nil_append, List.cons_append]
  gi_wp2_with fail
  refine ⟨trivial, ?_⟩
  gi_at_call 67
  refine (callsIn_wide.2 (isExponent_any n _)).mono ?_
  rw [HE.out]
  rintro e w' ⟨rfl, hww⟩
  subst w'
  gi_wp2_with fail
  refine ⟨trivial, ?_⟩
  gi_at_call 54
  refine (callsIn_wide.2 (HD.out w)).mono ?_
  rintro e w2 ⟨A, c, rfl, ho2, hb2⟩
  have hcap : T + 1 ≤ c := by have := ho2.cap; rw [QL.out] at this; exact this
  have hrd2 : Rd w2 w2.heap.size 1 A (T + 1) ((q ++ [dl]).map I) := by have h := ho2; unfold OwI at h; rw [QL.out] at h; exact Rd.of_own h
  have HRQ := Lib.hid (show Rd w2 w2.heap.size 1 A q.length (q.map I) by
    have h := rd_take9 hrd2 (show T ≤ T + 1 by omega)
    rw [QT.out]
    have e : ((q ++ [dl]).map I).take T = q.map I := by rw [← QT.out, List.map_append, List.take_left' (by simp)]
    rwa [e] at h)
  have XB := Lib.hid hb2
  have hs2 := hb2.size
  have ET : ((T : Int) + 1) - 1 = (T : Int) := by omega
  have ic : (T : Int) ≤ (c : Int) := by omega
  have ic1 : (T : Int) ≤ (T : Int) + 1 := by omega
  clear ho2 hb2 hrd2
  gi_wp2_with fail
  refine ⟨trivial, ?_⟩
  gi_at_call 68
  refine (backward_in Fence.wide _ trivial rfl _ _ _ _).mono ?_
  rintro e w' ⟨rfl, hww⟩
  subst hww
  gi_wp2_with fail
  obtain ⟨i0, hi, hz0, hz1, hz2⟩ := info_parts info_int9
  have HI := Lib.hid hi
  have HI0 := Lib.hid hz0
  have HI1 := Lib.hid hz1
  have HI2 := Lib.hid hz2
  clear hi hz0 hz1 hz2
  obtain ⟨w3, hw3⟩ : ∃ w3, ((w2.alloc (.cells #[.int .i64 1] 3)).alloc (.cells #[.slice (some ⟨w2.heap.size, 0, none⟩) 1 1] 22)).alloc (.cells #[.slice A T c] 22) = w3 := ⟨_, rfl⟩
  rw [hw3]
  have hb3 : Below w2.heap.size w2 w3 := by subst hw3; exact (((Below.refl _ _).alloc (Nat.le_refl _) _).alloc (by simp) _).alloc (by simp; omega) _
  have z5 : Boxed w3 (w2.heap.size + 1) 22 (.slice (some ⟨w2.heap.size, 0, none⟩) 1 1) := by
    subst hw3
    have := (Boxed.new (w2.alloc (.cells #[.int .i64 1] 3)) 22 (.slice (some ⟨w2.heap.size, 0, none⟩) 1 1)).alloc (.cells #[.slice A T c] 22)
    rw [World.size_alloc] at this
    exact this
  have z7 : w3.heap[w2.heap.size + 1 + 1]? = some (.cells #[.slice A T c] 22 (0, 0)) := by
    subst hw3
    have := heap_alloc_new ((w2.alloc (.cells #[.int .i64 1] 3)).alloc (.cells #[.slice (some ⟨w2.heap.size, 0, none⟩) 1 1] 22)) (.cells #[.slice A T c] 22)
    simpa using this
  have r3 : w3.ownsRow w2.heap.size 3 1 (.slice (some ⟨w2.heap.size, 0, none⟩) 1 1) 1 [I 1] := by
    subst hw3
    exact World.ownsRow.alloc (World.ownsRow.alloc (own_lit9 w2 1) _) _
  have s3 : w3.heap.size = w2.heap.size + 3 := by subst hw3; simp
  have HB3 := Lib.hid hb3
  have HR := Lib.hid (show ∀ W', Below w2.heap.size w3 W' → Rd W' w2.heap.size 1 A q.length (q.map I) from fun W' h => HRQ.out.below' (hb3.trans h) (Nat.le_refl _))
  have z7' : w3.heap[w2.heap.size + 1 + 1]? = some (.cells #[.slice A q.length c] 22 (0, 0)) := by rw [QT.out]; exact z7
  clear hw3 hb3
  refine wpIn_rangeFunc_ownG (w0 := w3) rfl (by omega) (gf := 87) (lb := #[.pointer (some ⟨w2.heap.size + 1 + 1, 0, none⟩)]) rfl trivial (enters_of Try.func87 (by kernel_rfl) rfl)
    (backward_stops Fence.wide _ trivial rfl (by omega) (w2.heap.size + 1 + 1) w2.heap.size A c q (by rw [QT.out]; omega) w3 (by omega) z7' HR.out) kpB_t (kpB_b (by omega) (by omega)) (Below.refl _ _) (fun _ => rfl)
    (fun pre W => (∃ v, Boxed W (w2.heap.size + 1) 22 v ∧ W.ownsRow w2.heap.size 3 1 v (scw pre).length ((scw pre).map I) ∧ True) ∧
      (Boxed W (w2.heap.size + 1 + 1) 22 (.slice A T c) ∧ Below w2.heap.size w2 W))
    (fun _ _ _ => False)
    (OwnFrom.and (Own.from (holdsRow_own w2.heap.size (w2.heap.size + 1) 22 3 1 (fun pre => (scw pre).length) (fun pre => (scw pre).map I) (fun _ _ => True)) _)
      (OwnFrom.and (Own.from (fun s A B row hs hg hr => blk_own hs hg hr) _) (ownFrom_below (Nat.le_refl _) (by omega))))
    (fun _ _ _ _ _ hs _ _ => hs)
    ⟨⟨_, z5, r3, trivial⟩, z7, HB3.out⟩
    (fun x => { tmps := #[.int .i64 n, undef, .slice none 0 0, .bool false, .slice A (T + 1) c, .pointer (some ⟨w2.heap.size + 1, 0, none⟩), undef, .int .i64 x.2, .int .i64 n, .bool true, .bool false, .int .i64 n, .slice A (T + 1) c, .slice (some ⟨w2.heap.size, 0, none⟩) 1 1, .slice A (T + 1) c, .slice A (T + 1) c, .int .i64 ((T : Int) + 1), .int .i64 (T : Int), .slice A T c, .func (.func 87) #[] #[.pointer (some ⟨w2.heap.size + 1 + 1, 0, none⟩)], .int .i64 (x.1 : Int), .int .i64 x.2, undef, undef, undef, undef, undef, undef, undef, undef, undef, undef, undef, undef, undef, undef, undef, undef, undef, undef, undef], defers := [] }) ?assign ?body ?done ?stop
  case assign =>
    intro l x W K hK
    gi_wp2
    exact hK
  case body =>
    rintro lr pre ⟨i, d⟩ W ⟨⟨v, hbx, hrow, _⟩, hbs, hbel⟩ hlen
    rw [QT.out] at hlen
    have hwl := scw_len pre
    have EF := Lib.hid (scw_snoc pre (i, d))
    have BEL := Lib.hid hbel
    have hs := hbel.size
    obtain ⟨z, hz⟩ : ∃ z, scw pre = z := ⟨_, rfl⟩
    rw [hz] at hrow EF hwl
    obtain ⟨L, hL⟩ : ∃ L, z.length = L + 1 := ⟨z.length - 1, by omega⟩
    have hL60 : L ≤ 60 := by omega
    rw [hL] at hrow
    have HL := Lib.hid hL
    obtain ⟨A1, c1, rfl⟩ := row_form9 hrow
    have ROW := Lib.hid hrow
    have BX := Lib.hid hbx
    have BS := Lib.hid hbs
    have xb := hbx.cell
    have HEN := Lib.hid (endOf_any W.heap.size A1 c1 L z W.drew hL (by omega) (by rw [hL]; exact (Rd.of_own hrow).drew))
    obtain ⟨m, hm⟩ : ∃ m, lst z = m := ⟨_, rfl⟩
    rw [hm] at HEN
    have EM := Lib.hid hm
    obtain ⟨D1, hD1⟩ : ∃ D1, wrap64 (2 * m) = D1 := ⟨_, rfl⟩
    have e1 : IntKind.i64.wrap (2 * m) = D1 := by rw [wrap_i64_64]; exact hD1
    have ED1 := Lib.hid hD1
    have hlast := Lib.hid (lst_snoc z D1)
    have BXd := Lib.hid (show Boxed W.drew (w2.heap.size + 1) 22 (.slice A1 (L + 1) c1) from hbx)
    have ROWd := Lib.hid (show W.drew.ownsRow w2.heap.size 3 1 (.slice A1 (L + 1) c1) (L + 1) (z.map I) from hrow)
    have BSd := Lib.hid (show Boxed W.drew (w2.heap.size + 1 + 1) 22 (.slice A T c) from hbs)
    clear hbx hrow hbs hbel hz hL hm hD1 hwl
    dsimp only
    gi_wp2
    have XD1 := Lib.hid (show (fun x : World => x.cell? ⟨w2.heap.size + 1, 0, none⟩ = some (.slice A1 (L + 1) c1)) W.drew from BXd.out.cell)
    have XA1 := Lib.hid (show (fun x : World => x.cell? ⟨w2.heap.size + 1, 0, none⟩ = some (.slice A1 (L + 1) c1)) (W.drew.alloc (.cells #[.int .i64 D1] 3)) from (Boxed.alloc BXd.out _).cell)
    have NX1 := Lib.hid (show ∀ j u, ([.int .i64 D1] : List Value)[j]? = some u → (W.drew.alloc (.cells #[.int .i64 D1] 3)).cell? ((⟨W.heap.size, 0, none⟩ : Addr).add j) = some u from cell_one_at9 W.drew _ _)
    have xd1 := XD1.out
    simp only [] at xd1
    refine wp_region_J (fun _ => trivial) (fun x : World => x.cell? ⟨w2.heap.size + 1, 0, none⟩ = some (.slice A1 (L + 1) c1)) [0, 1, 3] [0, 1] (.ls 0 (.ls 1 (.hv 2 (.lp 3 (.hv 4 (.hv 5 (.hv 6 (.done)))))))) (by kernel_rfl) (by kernel_rfl) ?_
    (repeat (refine J_lp rfl (fun K hK => ?_); go_simp; refine hK _ ?_; clear hK K))
    refine J_ls1 (v := .slice A1 (L + 1) c1) rfl rfl XD1.out (fun x hx => (by go_simp)) (fun K hK => ?_)
    (go_simp; refine hK _ ?_; clear hK K)
    refine J_ls1 (v := .slice A1 (L + 1) c1) rfl rfl XD1.out (fun x hx => (by go_simp)) (fun K hK => ?_)
    (go_simp; refine hK _ ?_; clear hK K)
    refine J_hvS rfl (fun K hK => ?_)
    go_simp
    refine ⟨trivial, ?_⟩
    refine (CallsIn.inRound lr (callsIn_wide.2 HEN.out)).mono ?_
    rintro e w' ⟨rfl, hww⟩
    subst w'
    go_simp
    refine hK _ _ XD1.out ?_
    clear hK K
    (repeat (refine J_lp rfl (fun K hK => ?_); go_simp; refine hK _ ?_; clear hK K))
    refine J_hvS rfl (fun K hK => ?_)
    go_simp
    refine hK _ _ XA1.out ?_
    clear hK K
    refine J_hv rfl (by kernel_rfl) (fun K hK => ?_)
    refine stepIn_app _ rfl (.tmp 22) (.tmp 26) 22 rfl w2.heap.size 3 i0 (I 0) 1 8 Try.underlying22 HI.out HI0.out HI1.out HI2.out rfl (by decide) _ (L + 1) _ rfl (World.ownsRow.alloc ROWd.out _) ⟨W.heap.size, 0, none⟩ 1 1 [.int .i64 D1] rfl rfl NX1.out (by simp [Value.oneCell']) (by unfold maxLen; omega) (by omega) (by simp; omega) ?_
    intro v' w1 hown' hgrow
    obtain ⟨g', cap', rfl⟩ := ownsRow_succ hown'
    obtain ⟨hv1, hv2, hr2, hk2, hb2⟩ := BXd.out.appended (by decide) ROWd.out (by simp; omega) (by omega) hown' hgrow
    have hc1 := hv1.cell
    have hf1 := hv1.frozen
    have hs1 : Boxed w1 (w2.heap.size + 1 + 1) 22 (.slice A T c) := (Boxed.alloc BSd.out _).kept hgrow (Boxed.not_row BSd.out (by decide) ROWd.out)
    have S2 := (set_other (u := .slice (some ⟨g', 0, none⟩) (L + 1 + 1) cap') (k := 0) (show w2.heap.size + 1 + 1 ≠ w2.heap.size + 1 by omega)).trans hs1
    go_simp
    refine hK _ _ ?_
    clear hK K
    refine J_hv rfl (by kernel_rfl) (fun K hK => ?_)
    go_simp
    refine hK _ _ ?_
    clear hK K
    refine J_done ?_
    generalize hWb : World.setCell w1 _ _ = Wb at hv2 hr2 hk2 hb2 S2 ⊢
    have BX1 := Lib.hid hv2
    have ROW1 := Lib.hid (show Wb.ownsRow w2.heap.size 3 1 (.slice (some ⟨g', 0, none⟩) (L + 1 + 1) cap') (L + 1 + 1) ((z ++ [D1]).map I) by have h := hr2; rw [List.map_append]; exact h)
    have BS1 := Lib.hid (show Boxed Wb (w2.heap.size + 1 + 1) 22 (.slice A T c) from S2)
    have K1 := Lib.hid ((KeepsOthers.drew W).trans hk2)
    have B1 := Lib.hid (show Below w2.heap.size W Wb from (Below.refl _ _).drew.trans hb2)
    clear hWb hv1 hv2 hr2 hk2 hb2 hc1 hf1 hs1 S2 hown' hgrow xd1
    by_cases h0 : d = 0
    · have i0' : (d != 0) = false := by simpa using h0
      have EN := Lib.hid (show scw (pre ++ [(i, d)]) = z ++ [D1] by rw [EF.out]; unfold scW; rw [if_pos h0, EM.out, ED1.out])
      clear h0
      gi_wp2
      have RR : Wb.ownsRow w2.heap.size 3 1 (.slice (some ⟨g', 0, none⟩) (L + 1 + 1) cap') (scw (pre ++ [(i, d)])).length ((scw (pre ++ [(i, d)])).map I) := by
        rw [EN.out, show (z ++ [D1]).length = L + 1 + 1 by rw [List.length_append, HL.out]; rfl]
        exact ROW1.out
      first
        | exact ⟨K1.out.from _, ⟨B1.out, fun _ => Eq.trans BS1.out (Eq.symm BS.out)⟩, ⟨_, BX1.out, RR, trivial⟩, BS1.out, BEL.out.trans B1.out⟩
        | exact ⟨K1.out.from _, ⟨B1.out, fun _ => Eq.trans BS1.out (Eq.symm BS.out)⟩, ⟨_, BX1.out, RR⟩, BS1.out, BEL.out.trans B1.out⟩
    · have i0' : (d != 0) = true := by simpa using h0
      obtain ⟨D2, hD2⟩ : ∃ D2, wrap64 (D1 + d) = D2 := ⟨_, rfl⟩
      have EN := Lib.hid (show scw (pre ++ [(i, d)]) = z ++ [D1] ++ [D2] by rw [EF.out]; unfold scW; rw [if_neg h0, EM.out, ED1.out, hD2])
      have e2 : IntKind.i64.wrap (D1 + d) = D2 := by rw [wrap_i64_64]; exact hD2
      have hzl : (z ++ [D1]).length = L + 1 + 1 := by rw [List.length_append, HL.out]; rfl
      have HEN2 := endOf_any Wb.heap.size (some ⟨g', 0, none⟩) cap' (L + 1) (z ++ [D1]) Wb.drew hzl (by omega) (by rw [hzl]; exact (Rd.of_own ROW1.out).drew)
      rw [hlast.out] at HEN2
      have HEN2 := Lib.hid HEN2
      have BXd2 := Lib.hid (show Boxed Wb.drew (w2.heap.size + 1) 22 (.slice (some ⟨g', 0, none⟩) (L + 1 + 1) cap') from BX1.out)
      have ROWd2 := Lib.hid (show Wb.drew.ownsRow w2.heap.size 3 1 (.slice (some ⟨g', 0, none⟩) (L + 1 + 1) cap') (L + 1 + 1) ((z ++ [D1]).map I) from ROW1.out)
      have BSd2 := Lib.hid (show Boxed Wb.drew (w2.heap.size + 1 + 1) 22 (.slice A T c) from BS1.out)
      have hsb : w2.heap.size ≤ Wb.heap.size := Nat.le_trans hs B1.out.size
      clear h0 hD2 hzl xb
      gi_wp2
      have XD2 := Lib.hid (show (fun x : World => x.cell? ⟨w2.heap.size + 1, 0, none⟩ = some (.slice (some ⟨g', 0, none⟩) (L + 1 + 1) cap')) Wb.drew from BXd2.out.cell)
      have XA2 := Lib.hid (show (fun x : World => x.cell? ⟨w2.heap.size + 1, 0, none⟩ = some (.slice (some ⟨g', 0, none⟩) (L + 1 + 1) cap')) (Wb.drew.alloc (.cells #[.int .i64 D2] 3)) from (Boxed.alloc BXd2.out _).cell)
      have NX2 := Lib.hid (show ∀ j u, ([.int .i64 D2] : List Value)[j]? = some u → (Wb.drew.alloc (.cells #[.int .i64 D2] 3)).cell? ((⟨Wb.heap.size, 0, none⟩ : Addr).add j) = some u from cell_one_at9 Wb.drew _ _)
      have xd2 := XD2.out
      simp only [] at xd2
      refine wp_region_J (fun _ => trivial) (fun x : World => x.cell? ⟨w2.heap.size + 1, 0, none⟩ = some (.slice (some ⟨g', 0, none⟩) (L + 1 + 1) cap')) [0, 1, 3, 4] [0, 1] (.lp 3 (.ls 0 (.ls 1 (.hv 2 (.lp 4 (.hv 5 (.hv 6 (.hv 7 (.done))))))))) (by kernel_rfl) (by kernel_rfl) ?_
      (repeat (refine J_lp rfl (fun K hK => ?_); go_simp; refine hK _ ?_; clear hK K))
      refine J_ls1 (v := .slice (some ⟨g', 0, none⟩) (L + 1 + 1) cap') rfl rfl XD2.out (fun x hx => (by go_simp)) (fun K hK => ?_)
      (go_simp; refine hK _ ?_; clear hK K)
      refine J_ls1 (v := .slice (some ⟨g', 0, none⟩) (L + 1 + 1) cap') rfl rfl XD2.out (fun x hx => (by go_simp)) (fun K hK => ?_)
      (go_simp; refine hK _ ?_; clear hK K)
      refine J_hvS rfl (fun K hK => ?_)
      go_simp
      refine ⟨trivial, ?_⟩
      refine (CallsIn.inRound lr (callsIn_wide.2 HEN2.out)).mono ?_
      rintro e w' ⟨rfl, hww⟩
      subst w'
      go_simp
      refine hK _ _ XD2.out ?_
      clear hK K
      (repeat (refine J_lp rfl (fun K hK => ?_); go_simp; refine hK _ ?_; clear hK K))
      refine J_hvS rfl (fun K hK => ?_)
      go_simp
      refine hK _ _ XA2.out ?_
      clear hK K
      refine J_hv rfl (by kernel_rfl) (fun K hK => ?_)
      refine stepIn_app _ rfl (.tmp 30) (.tmp 35) 22 rfl w2.heap.size 3 i0 (I 0) 1 8 Try.underlying22 HI.out HI0.out HI1.out HI2.out rfl (by decide) _ (L + 1 + 1) _ rfl (World.ownsRow.alloc ROWd2.out _) ⟨Wb.heap.size, 0, none⟩ 1 1 [.int .i64 D2] rfl rfl NX2.out (by simp [Value.oneCell']) (by unfold maxLen; omega) (by omega) (by simp; omega) ?_
      intro v' w1 hown' hgrow
      obtain ⟨g', cap', rfl⟩ := ownsRow_succ hown'
      obtain ⟨hv1, hv2, hr2, hk2, hb2⟩ := BXd2.out.appended (by decide) ROWd2.out (by simp; omega) (by omega) hown' hgrow
      have hc1 := hv1.cell
      have hf1 := hv1.frozen
      have hs1 : Boxed w1 (w2.heap.size + 1 + 1) 22 (.slice A T c) := (Boxed.alloc BSd2.out _).kept hgrow (Boxed.not_row BSd2.out (by decide) ROWd2.out)
      have S2 := (set_other (u := .slice (some ⟨g', 0, none⟩) (L + 1 + 1 + 1) cap') (k := 0) (show w2.heap.size + 1 + 1 ≠ w2.heap.size + 1 by omega)).trans hs1
      go_simp
      refine hK _ _ ?_
      clear hK K
      refine J_hv rfl (by kernel_rfl) (fun K hK => ?_)
      go_simp
      refine hK _ _ ?_
      clear hK K
      refine J_done ?_
      generalize hWb : World.setCell w1 _ _ = Wc at hv2 hr2 hk2 hb2 S2 ⊢
      have BX2 := Lib.hid hv2
      have ROW2 := Lib.hid (show Wc.ownsRow w2.heap.size 3 1 (.slice (some ⟨g', 0, none⟩) (L + 1 + 1 + 1) cap') (L + 1 + 1 + 1) (((z ++ [D1]) ++ [D2]).map I) by have h := hr2; rw [List.map_append]; exact h)
      have BS2 := Lib.hid (show Boxed Wc (w2.heap.size + 1 + 1) 22 (.slice A T c) from S2)
      have K2 := Lib.hid ((KeepsOthers.drew Wb).trans hk2)
      have B2 := Lib.hid (show Below w2.heap.size Wb Wc from (Below.refl _ _).drew.trans hb2)
      clear hWb hv1 hv2 hr2 hk2 hb2 hc1 hf1 hs1 S2 hown' hgrow xd2
      gi_wp2
      have BB := B1.out.trans B2.out
      have RR : Wc.ownsRow w2.heap.size 3 1 (.slice (some ⟨g', 0, none⟩) (L + 1 + 1 + 1) cap') (scw (pre ++ [(i, d)])).length ((scw (pre ++ [(i, d)])).map I) := by
        rw [EN.out, show (z ++ [D1] ++ [D2]).length = L + 1 + 1 + 1 by rw [List.length_append, List.length_append, HL.out]; rfl]
        exact ROW2.out
      first
        | exact ⟨(K1.out.trans K2.out).from _, ⟨BB, fun _ => Eq.trans BS2.out (Eq.symm BS.out)⟩, ⟨_, BX2.out, RR, trivial⟩, BS2.out, BEL.out.trans BB⟩
        | exact ⟨(K1.out.trans K2.out).from _, ⟨BB, fun _ => Eq.trans BS2.out (Eq.symm BS.out)⟩, ⟨_, BX2.out, RR⟩, BS2.out, BEL.out.trans BB⟩
  case done =>
    rintro D' ys W hD' rfl ⟨⟨v, hbx, hrow, _⟩, _, hbel⟩ hK
    have hq : (bwZ q q.length).length = q.length := bwd_length _ _ _
    obtain ⟨hw, hge⟩ := sc_all HQM.out (by rw [QT.out]; omega)
    have hl1 : 1 ≤ (chF n).length ∧ (chF n).length ≤ 1 + 2 * T := by
      have h := scw_len (bwZ q q.length)
      rw [hw, ← ECF.out, hq, QT.out] at h
      exact h
    rw [hw, ← ECF.out] at hrow
    rw [← ECF.out] at hge
    obtain ⟨L, hL⟩ : ∃ L, (chF n).length = L + 1 := ⟨(chF n).length - 1, by omega⟩
    rw [hL] at hrow hl1
    obtain ⟨A', c', rfl⟩ := row_form9 hrow
    have xb := hbx.cell
    have BX := Lib.hid hbx
    have BEL := Lib.hid hbel
    have ROW := Lib.hid hrow
    have hs := hbel.size
    have MX := Lib.hid (maxI_any W.heap.size A' c' L (chF n) W hL (by omega) (by rw [hL]; exact Rd.of_own hrow))
    have HGE := Lib.hid hge
    have HL := Lib.hid hL
    have EB := Lib.hid (show chB n = allB (chF n) 1 1000000 by unfold chB; rw [HE.out]; rfl)
    clear hbel hrow hbx hq hw hge hL
    gi_wp2_with fail
    refine ⟨trivial, ?_⟩
    gi_at_call 70
    refine (callsIn_wide.2 MX.out).mono ?_
    rintro e w' ⟨⟨m, rfl, hm1, hm2⟩, hww⟩
    subst w'
    have EB := Lib.hid (EB.out.trans (allB_max HGE.out hm1 hm2))
    clear hm1 hm2
    by_cases hm : m ≤ 1000000
    · have EB := Lib.hid (EB.out.trans (decide_eq_true hm))
      have ER := Lib.hid (show chR n = chF n by unfold chR; rw [EB.out]; rfl)
      have im : ¬ 1000000 < m := by omega
      clear hm
      gi_wp2
      refine ⟨by simp, .inl ⟨_, _, rfl, run_takeDeferred hK, ?_⟩⟩
      refine ⟨.tuple #[.slice A' (L + 1) c', .bool true], by simp [results, Try.results32, go_sem], A', c', by rw [ER.out, HL.out, EB.out], ?_, XB.out.trans ((BEL.out.mono hs2).trans (belowK_b (w := w) (Nat.le_refl _) W D' _ _ (by omega) hK rfl rfl))⟩
      rw [ER.out]
      unfold OwI
      rw [HL.out]
      exact ownsRow_putObj (own_base ROW.out hs2) _ hK rfl
    · have EB := Lib.hid (EB.out.trans (decide_eq_false hm))
      have ER := Lib.hid (show chR n = [] by unfold chR; rw [EB.out]; rfl)
      have im : 1000000 < m := by omega
      clear hm
      gi_wp2
      refine ⟨by simp, .inl ⟨_, _, rfl, run_takeDeferred hK, ?_⟩⟩
      refine ⟨.tuple #[.slice none 0 0, .bool false], by simp [results, Try.results32, go_sem], none, 0, by rw [ER.out, EB.out]; rfl, by rw [ER.out]; exact OwI.nil _ _, XB.out.trans ((BEL.out.mono hs2).trans (belowK_b (w := w) (Nat.le_refl _) W D' _ _ (by omega) hK rfl rfl))⟩
  case stop =>
    rintro D' c' pre W _ _ h _
    exact h.elim
end Go.Proofs.Ytbohakifjmdoiaa
