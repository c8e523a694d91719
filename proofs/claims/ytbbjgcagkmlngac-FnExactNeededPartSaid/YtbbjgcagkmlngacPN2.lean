/- Joined: Bl Qj Qn Qq Qt Qp Qu Qv Qw Ra Rd Rb Rg Rc Rh. -/
import Derived.Shelf.Small.Bits
import Derived.Test.YtbbjgcagkmlngacPN0
import Derived.Lib.BitFns
import Derived.Test.YtbbjgcagkmlngacPN1
import Derived.Lib.AppendZeros
import Derived.Lib.AppendZerosOnto
import Derived.Lib.Overlaps
import Derived.Lib.SliceRun
import Derived.Laws.Externs
import Derived.Laws.IdiomCopy
/- The library's bit length, at this program. -/
namespace Go.Proofs.Ytbbjgcagkmlngac
open Go.Shelf
def bitsLays_ren : Go.Shelf.Ren := ⟨fun | 125 => 57 | 128 => 79 | 129 => 80 | n => n, fun | 46 => 56 | 3 => 3 | 51 => 72 | 53 => 74 | 4 => 4 | 5 => 5 | 9 => 9 | n => n, fun | n => n⟩
theorem bitsLays : Go.Proofs.Lays.n125 Try.prog bitsLays_ren := {
  mixed := by kernel_rfl
  f125 := Try.func57.trans (congrArg some (by kernel_rfl))
  f128 := Try.func79.trans (congrArg some (by kernel_rfl))
  f129 := Try.func80.trans (congrArg some (by kernel_rfl))
  t3 := Try.underlying3
  a3 := Try.isAgg3
  z3 := Try.sizeOf3
  v3 := Try.zeroValue3
  t4 := Try.underlying4
  a4 := Try.isAgg4
  z4 := Try.sizeOf4
  v4 := Try.zeroValue4
  t5 := Try.underlying5
  a5 := Try.isAgg5
  z5 := Try.sizeOf5
  v5 := Try.zeroValue5
  t9 := Try.underlying9
  a9 := Try.isAgg9
  z9 := Try.sizeOf9
  v9 := Try.zeroValue9
  t46 := Try.underlying56
  a46 := Try.isAgg56
  z46 := Try.sizeOf56
  v46 := Try.zeroValue56
  t51 := Try.underlying72
  a51 := Try.isAgg72
  z51 := Try.sizeOf72
  v51 := Try.zeroValue72
  t53 := Try.underlying74
  a53 := Try.isAgg74
  z53 := Try.sizeOf74
  v53 := Try.zeroValue74 }
theorem bitsLen_any (x : Int) (w : World) (h0 : 0 ≤ x) (h1 : x ≤ 18446744073709551615) :
    Calls Try.prog 57 #[.int .u64 x] w fun e w' => e = .returned (.int .i64 (Lib.bitLen x.toNat)) ∧ w' = w := Any.bits_Len bitsLays x w h0 h1
end Go.Proofs.Ytbbjgcagkmlngac
/- Bit lengths. -/
namespace Go.Proofs.Ytbbjgcagkmlngac
open Go.RowKit

def bl (n : Int) : Nat := Lib.bitLen n.toNat
theorem bl_more {n : Nat} {b : Nat} (hn : n ≤ 1000000) (h : 2 ^ b ≤ n) : b + 1 ≤ Lib.bitLen n := by
  rw [Lib.bitLen_shift b n h (by omega)]
  have h1 : n / 2 ^ b ≠ 0 := by
    have := Nat.div_pos h (Nat.two_pow_pos b)
    omega
  have h2 : n / 2 ^ b ≤ n := Nat.div_le_self _ _
  rw [Lib.bitLen_half (n / 2 ^ b) h1 (by omega)]
  omega
theorem bl_bd {n : Nat} (hn : n ≤ 1000000) : Lib.bitLen n ≤ 20 := Lib.bitLen_le n 20 (by omega) (by omega)

set_option maxRecDepth 100000 in
set_option maxHeartbeats 1000000 in
theorem chLength_any (n : Int) (w : World) (h0 : 0 ≤ n) (h1 : n ≤ 1000000) :
    Calls Try.prog 56 #[.int .i64 n] w fun e w' => e = .returned (.int .i64 (bl n)) ∧ w = w' := by
  obtain ⟨N, rfl⟩ : ∃ N : Nat, n = N := ⟨n.toNat, by omega⟩
  have hbd := bl_bd (n := N) (by omega)
  obtain ⟨L, hL⟩ : ∃ L, Lib.bitLen N = L := ⟨_, rfl⟩
  have e : bl (N : Int) = L := by unfold bl; rw [← hL]; rfl
  rw [e]
  rw [hL] at hbd
  have HL := Lib.hid hL
  clear hL e
  go_enter Try.func56, Try.ntmps56
  go_wp2
  go_loop [3] (fun i => ∃ b : Nat, b ≤ L ∧ i = .int .i64 b) (fun i => L - (intOf i).toNat)
  case atStart => exact ⟨0, by omega, rfl⟩
  case round =>
    obtain ⟨b, hb, rfl⟩ := hrel
    by_cases hp : 2 ^ b ≤ N
    · have hlt : b + 1 ≤ L := by rw [← HL.out]; exact bl_more (by omega) hp
      have ip : (0 : Int) < (N : Int) / 2 ^ b := by
        have h := Nat.div_pos hp (Nat.two_pow_pos b)
        have e : ((N / 2 ^ b : Nat) : Int) = (N : Int) / 2 ^ b := by push_cast; rfl
        omega
      clear hp
      go_wp2
      go_round
      case rel => exact ⟨b + 1, by omega, by go_num⟩
      case measure => simp [intOf]; omega
    · have hle : L ≤ b := by rw [← HL.out]; exact Lib.bitLen_le N b (by omega) (by omega)
      have ip : ¬ (0 : Int) < (N : Int) / 2 ^ b := by
        have h := Nat.div_eq_of_lt (Nat.lt_of_not_le hp)
        have e : ((N / 2 ^ b : Nat) : Int) = (N : Int) / 2 ^ b := by push_cast; rfl
        omega
      have eb : b = L := by omega
      subst eb
      clear hp
      go_wp2
      go_ret
      exact ⟨rfl, rfl⟩

def isNum (n : Int) : Bool := inB n 1 1000000
def bitN (n : Int) : Int := if isNum n then (bl n : Int) else 0
theorem bitN_true {n : Int} (h : isNum n = true) : bitN n = bl n := by unfold bitN; rw [if_pos h]
theorem bitN_false {n : Int} (h : isNum n = false) : bitN n = 0 := by unfold bitN; rw [h]; rfl
theorem isNum_rng {n : Int} (h : isNum n = true) : 1 ≤ n ∧ n ≤ 1000000 := by
  unfold isNum inB at h
  simpa using h

theorem chNumber_any (n : Int) (w : World) : Calls Try.prog 59 #[.int .i64 n] w fun e w' => e = .returned (.bool (isNum n)) ∧ w = w' := by
  go_enter Try.func59, Try.ntmps59
  go_wp2_with (go_at_call 76; refine (l1In_any _ _ _ _).mono ?_; rintro e w' ⟨rfl, rfl⟩)
  go_ret
  exact ⟨rfl, rfl⟩

end Go.Proofs.Ytbbjgcagkmlngac
/- Lists that are answered if they are chains; copies of lists. -/
namespace Go.Proofs.Ytbbjgcagkmlngac
open Go.RowKit

/-- A list that is answered if b. -/
def selL (b : Bool) (l : List Int) : List Int := if b then l else []
theorem selL_true {b : Bool} {l : List Int} (h : b = true) : selL b l = l := by unfold selL; rw [if_pos h]
theorem selL_false {b : Bool} {l : List Int} (h : b = false) : selL b l = [] := by unfold selL; rw [h]; rfl
theorem selL_le {b : Bool} {l : List Int} (h : b = true → chG l = true) : (selL b l).length ≤ 1000 := by
  cases b with
  | false => simp [selL]
  | true => have := (chG_chn (h rfl)).most; rw [selL_true rfl]; omega
theorem and_chG {b : Bool} {l : List Int} (h : (b && chG l) = true) : chG l = true := by simp only [Bool.and_eq_true] at h; exact h.2

set_option maxRecDepth 100000 in
set_option maxHeartbeats 1000000 in
theorem chIf_any (B : Nat) (A : Option Addr) (c : Nat) (l : List Int) (w : World) (hl : l.length ≤ 1048576) (hown : OwI w B (.slice A l.length c) l) :
    Calls Try.prog 60 #[.slice A l.length c] w fun e w' =>
      ∃ A' c', e = .returned (.tuple #[.slice A' (selL (chG l) l).length c', .bool (chG l)]) ∧ OwI w' B (.slice A' (selL (chG l) l).length c') (selL (chG l) l) ∧ Below w.heap.size w w' := by
  have hS := chGood_any w.heap.size A c l w hl (Nat.le_refl _) hown.rd
  have OWN := Lib.hid hown
  clear hown
  cases hg : chG l with
  | false =>
    rw [hg] at hS
    have HS := Lib.hid hS
    have GG := Lib.hid hg
    clear hS hg
    go_enter Try.func60, Try.ntmps60
    go_wp2_with (go_at_call 49; refine HS.out.mono ?_; rintro e w2 ⟨rfl, hb2⟩)
    go_ret2
    exact ⟨none, 0, rfl, OwI.nil _ _, hb2⟩
  | true =>
    rw [hg] at hS
    have HS := Lib.hid hS
    clear hS hg
    go_enter Try.func60, Try.ntmps60
    go_wp2_with (go_at_call 49; refine HS.out.mono ?_; rintro e w2 ⟨rfl, hb2⟩)
    go_ret2
    exact ⟨A, c, by rw [selL_true rfl]; rfl, by rw [selL_true rfl]; exact OWN.out.below hb2, hb2⟩
set_option maxRecDepth 100000 in
set_option maxHeartbeats 1000000 in
theorem chainOrNone_any (B : Nat) (A : Option Addr) (c : Nat) (l : List Int) (w : World) (hl : l.length ≤ 1048576) (hown : OwI w B (.slice A l.length c) l) :
    Calls Try.prog 62 #[.slice A l.length c] w fun e w' =>
      ∃ A' c', e = .returned (.tuple #[.slice A' (selL (chG l) l).length c', .bool (chG l)]) ∧ OwI w' B (.slice A' (selL (chG l) l).length c') (selL (chG l) l) ∧ Below w.heap.size w w' := by
  have hS := implIsChain_any w.heap.size A c l w (Nat.le_refl _) hl hown.cap hown.rd
  have OWN := Lib.hid hown
  clear hown
  cases hg : chG l with
  | false =>
    rw [hg] at hS
    have HS := Lib.hid hS
    have GG := Lib.hid hg
    clear hS hg
    go_enter Try.func62, Try.ntmps62
    go_wp2_with (go_at_call 17; refine HS.out.mono ?_; rintro e w2 ⟨rfl, hb2⟩)
    go_ret2
    exact ⟨none, 0, rfl, OwI.nil _ _, hb2⟩
  | true =>
    rw [hg] at hS
    have HS := Lib.hid hS
    clear hS hg
    go_enter Try.func62, Try.ntmps62
    go_wp2_with (go_at_call 17; refine HS.out.mono ?_; rintro e w2 ⟨rfl, hb2⟩)
    go_ret2
    exact ⟨A, c, by rw [selL_true rfl]; rfl, by rw [selL_true rfl]; exact OWN.out.below hb2, hb2⟩

theorem eq_nil_A (A : Option Addr) (n c : Nat) (W : World) : (binOp .eql 60 (.slice A n c) (.slice none 0 0)).run Try.prog W = .ok (.bool A.isNone) W := by
  simp only [binOp]
  simp [run_equal_slice_nil W 60 3 A n c Try.underlying60]
set_option maxRecDepth 100000 in
set_option maxHeartbeats 1000000 in
theorem cloneA_any (B : Nat) (A : Option Addr) (c : Nat) (l : List Int) (w : World) (hm : l.length ≤ 1000000) (h0 : 0 < l.length) (hB : B ≤ w.heap.size) (hr : Rd w B 1 A l.length (l.map I)) :
    Calls Try.prog 81 #[.slice A l.length c] w fun e w' => ∃ A' c', e = .returned (.slice A' l.length c') ∧ OwI w' w.heap.size (.slice A' l.length c') l ∧ Below w.heap.size w w' := by
  obtain ⟨ad, rfl⟩ := hr.addr h0
  have H := Lib.hid hr
  clear hr
  have hnil := fun W => eq_nil_A (some ad) l.length c W
  go_enter Try.func81, Try.ntmps81
  go_wp2_with (first
    | (at_builtin; refine list_step (fun K hK => ?_); refine step_appM Try.underlying60 info_int rfl (by omega) (by omega) rfl (.tmp 5) (.tmp 6) rfl w.heap.size 0 _ [] rfl (own_empty 1 (Nat.le_refl _)) _ l.length c (l.map I) rfl (H.out.alloc hB _) (ints_one l) (by omega) (by simp) ?_; intro A2 c2 w2 hown2 hg2 hbel2; go_simp; refine hK _ _ ?_; clear hK K))
  go_ret
  simp only [Nat.zero_add, List.nil_append] at hown2
  exact ⟨A2, c2, by simp, hown2, ((Below.refl _ _).alloc (Nat.le_refl _) _).trans hbel2⟩
/-- The same at nil. -/
theorem cloneA_nil (w : World) : Calls Try.prog 81 #[.slice none 0 0] w fun e w' => e = .returned (.slice none 0 0) ∧ w = w' := by
  have hnil := fun W => eq_nil_A none 0 0 W
  go_enter Try.func81, Try.ntmps81
  go_wp2
  go_ret
  exact ⟨rfl, rfl⟩
end Go.Proofs.Ytbbjgcagkmlngac
/- A number put into a list of own memory, by the library. -/
namespace Go.Proofs.Ytbbjgcagkmlngac
open Go.RowKit

theorem append_two (w : World) (ty : TypeId) (A : Option Addr) (n c : Nat) (x : Value) : (Builtin.append_ #[60, 22] ty #[.slice A n c, x]).run Try.prog w = (Builtin.append_ #[60, 60] ty #[.slice A n c, x]).run Try.prog w := by
  have u1 := run_underlying Try.underlying60
  have u2 := run_underlying Try.underlying22
  unfold Builtin.append_
  simp [Sem.run_bind, u1, u2]

/-- The operation copy, where its run is known. -/
theorem at_copy (w : World) {o : Oper} {a : Act} {K : Act → World → Prop} {Q : Exit → Act → World → Prop} (d s : Operand) (t t' : TypeId)
    (ho : o.op = .call { callee := .builtin .copy, args := #[d, s], argTypes := #[t, t'] }) (v u : Value) (hd : a.eval d = v) (hs : a.eval s = u) {v' : Value} {w' : World}
    (hr : (Builtin.copy_ #[t, t'] o.type #[v, u]).run Try.prog w = .ok v' w') (h : K (a.put o.dst v') w') : o.wp Try.prog a w K Q := by
  unfold Oper.wp execOp
  simp only [ho, resolve, invoke, builtin, Sem.run_bind, Sem.run_pure, Result.andThen_ok, List.map_toArray, List.map_cons, List.map_nil, hd, hs, hr]
  exact h
theorem list_copy (w : World) {ops : Array Oper} {rest : List Oper} {o : Oper} {a : Act} {Q : Exit → Act → World → Prop} (hgd : o.guard = none) (d s : Operand) (t t' : TypeId)
    (ho : o.op = .call { callee := .builtin .copy, args := #[d, s], argTypes := #[t, t'] }) (v u : Value) (hd : a.eval d = v) (hs : a.eval s = u) {v' : Value} {w' : World}
    (hr : (Builtin.copy_ #[t, t'] o.type #[v, u]).run Try.prog w = .ok v' w') (h : wpList Try.prog ops Q rest (a.put o.dst v') w') : wpList Try.prog ops Q (o :: rest) a w :=
  wpList_plain hgd fun _ hK => at_copy w d s t t' ho v u hd hs hr (hK _ _ h)
theorem step_copy {ops : Array Oper} {o : Oper} {a : Act} {w : World} {K : Act → World → Prop} {Q : Exit → Act → World → Prop} {E : Prop}
    (hg : o.guard = none) (d x : Operand) (dT sT : TypeId) (hop : o.op = Op.call { callee := Callee.builtin Builtin.copy, args := #[d, x], argTypes := #[dT, sT] })
    (v u : Value) (hd : a.eval d = v) (hx : a.eval x = u) {v' : Value} {w' : World} (hr : (Builtin.copy_ #[dT, sT] o.type #[v, u]).run Try.prog w = .ok v' w') (hK : K (a.put o.dst v') w') :
    if Region.wanted o (yielded ops a.tmps) = true then Oper.wp Try.prog o a w K Q else E := by
  have hw : Region.wanted o (yielded ops a.tmps) = true := by simp [Region.wanted, hg]
  rw [if_pos hw]
  unfold Oper.wp
  simp [execOp, hop, resolve, invoke, builtin, hd, hx, hr, Result.andThen]
  exact hK

/-- Stores of a list keep the block's size and type. -/
theorem setCells_heap (b : Nat) : ∀ (vs : List Value) (o : Nat) (w : World) (cur : Array Value) (t : TypeId), w.heap[b]? = some (.cells cur t (0, 0)) →
    ∃ cur', (w.setCells b o vs).heap[b]? = some (.cells cur' t (0, 0)) ∧ cur'.size = cur.size
  | [], _, _, cur, _, h => ⟨cur, h, rfl⟩
  | v :: vs, o, _, cur, t, h => by
    have h1 := heap_setCell_same _ b o cur t v h
    obtain ⟨cur', h2, h3⟩ := setCells_heap b vs (o + 1) _ _ t h1
    exact ⟨cur', h2, by rw [h3]; simp⟩
theorem setCells_below {B b : Nat} (hB : B ≤ b) : ∀ (vs : List Value) (o : Nat) (w0 w : World), Below B w0 w → Below B w0 (w.setCells b o vs)
  | [], _, _, _, h => h
  | v :: vs, o, w0, _, h => setCells_below hB vs (o + 1) w0 _ (h.setCell (p := ⟨b, o, none⟩) hB v)
/-- A row by its block and its cells. -/
theorem own_cells_mk {w : World} {B g cap n : Nat} {cur : Array Value} {t : TypeId} {xs : List Value} (hB : B ≤ g) (hg : w.heap[g]? = some (.cells cur t (0, 0))) (hs : cur.size = cap) (hn : n ≤ cap) (hM : cap ≤ maxLen) (hl : xs.length = n)
    (hc : ∀ j, j < n → w.cell? ⟨g, j, none⟩ = xs[j]?) : w.ownsRow B t 1 (.slice (some ⟨g, 0, none⟩) n cap) n xs := by
  refine ⟨by omega, .inr ⟨g, cap, cur, rfl, hB, hg, hn, hM, by omega, ?_⟩⟩
  refine List.ext_getElem (by rw [List.length_take, Array.length_toList]; omega) fun j h1 h2 => ?_
  have hj : j < n := by omega
  have h := hc j hj
  unfold World.cell? at h
  rw [hg] at h
  simp only [Option.isSome_none, Bool.false_eq_true, if_false] at h
  rw [List.getElem?_eq_getElem h2] at h
  rw [List.getElem_take]
  have h3 : j < cur.size := by omega
  rw [Array.getElem?_eq_getElem h3] at h
  simp only [Option.some.injEq] at h
  rw [Array.getElem_toList]
  exact h
/-- The list with x at index i. -/
def insA (l : List Int) (i : Nat) (x : Int) : List Int := l.take i ++ x :: l.drop i
theorem insA_length (l : List Int) {i : Nat} (x : Int) (hi : i ≤ l.length) : (insA l i x).length = l.length + 1 := by
  unfold insA
  rw [List.length_append, List.length_cons, List.length_take, List.length_drop]
  omega
theorem insA_at (l : List Int) {i : Nat} (x : Int) (hi : i ≤ l.length) (j : Nat) : ((insA l i x).map I)[j]? = if j < i then (l.map I)[j]? else if j = i then some (I x) else (l.map I)[j - 1]? := by
  unfold insA
  rw [List.map_append, List.map_cons, List.map_take, List.map_drop]
  by_cases h1 : j < i
  · rw [if_pos h1, List.getElem?_append_left (by simp; omega), List.getElem?_take, if_pos h1]
  · rw [if_neg h1, List.getElem?_append_right (by simp; omega)]
    have e : (List.take i (l.map I)).length = i := by simp; omega
    rw [e]
    by_cases h2 : j = i
    · subst h2
      simp
    · rw [if_neg h2, show j - i = (j - i - 1) + 1 by omega, List.getElem?_cons_succ, List.getElem?_drop]
      congr 1
      omega

set_option maxRecDepth 100000 in
set_option maxHeartbeats 2000000 in
/-- At the end. -/
theorem insert_end (B0 : Nat) (A : Option Addr) (c n : Nat) (x : Int) (vb vc : Nat) (l : List Int) (w : World) (hln : l.length = n) (hn : n ≤ 1000) (hB : B0 ≤ w.heap.size)
    (hown : w.ownsRow B0 3 1 (.slice A n c) n (l.map I)) (hv : w.cell? ⟨vb, 0, none⟩ = some (I x)) :
    Calls Try.prog 82 #[.slice A n c, .int .i64 n, .slice (some ⟨vb, 0, none⟩) 1 vc] w fun e w' =>
      ∃ A' c', e = .returned (.slice A' (n + 1) c') ∧ w'.ownsRow B0 3 1 (.slice A' (n + 1) c') (n + 1) ((insA l n x).map I) ∧ Below B0 w w' := by
  obtain ⟨i0, hi, hz0, hz1, hz2⟩ := info_parts info_int
  have hrun := fun ty => run_append_lies (P := Try.prog) (w := w) 60 ty B0 3 i0 _ 1 8 Try.underlying60 hi hz0 hz1 hz2 rfl (by omega) (.slice A n c) n (l.map I) hown
    ⟨vb, 0, none⟩ 1 vc [I x] rfl (fun j u hj => by
      match j, hj with
      | 0, hj => simp at hj; subst hj; simpa [Addr.add] using hv) (fun u hu => by simp at hu; subst hu; rfl) (by omega) (by unfold maxLen; omega) (by omega) hB w.heap.size rfl
  have hrun2 : ∀ ty, ∃ g cap w', (Builtin.append_ #[60, 22] ty #[.slice A n c, .slice (some ⟨vb, 0, none⟩) 1 vc]).run Try.prog w = .ok (.slice (some ⟨g, 0, none⟩) (n + 1) cap) w' ∧
      w'.ownsRow B0 3 1 (.slice (some ⟨g, 0, none⟩) (n + 1) cap) (n + 1) (l.map I ++ [I x]) ∧ Below B0 w w' := fun ty => by
    obtain ⟨g, cap, w', hr, h2, h3, _, _⟩ := hrun ty
    exact ⟨g, cap, w', (append_two w ty A n c _).trans hr, h2, below_of_own hown hB h3⟩
  obtain ⟨g, cap, w', hr, h2, h3⟩ := hrun2 60
  have HR := Lib.hid hr
  have H2 := Lib.hid h2
  have H3 := Lib.hid h3
  clear hrun hrun2 hown hr h2 h3
  go_enter Try.func82, Try.ntmps82
  go_wp2_with (at_builtin; refine Lib.wpList_append_run _ rfl _ _ _ _ rfl _ _ rfl rfl _ _ HR.out ?_)
  all_goals
    go_ret
    refine ⟨_, _, rfl, ?_, H3.out⟩
    have e : insA l n x = l ++ [x] := by unfold insA; rw [List.take_of_length_le (by omega), List.drop_of_length_le (by omega)]
    rw [e, List.map_append]
    exact H2.out

theorem cells_some {w : World} {b : Nat} {cur : Array Value} {t : TypeId} (h : w.heap[b]? = some (.cells cur t (0, 0))) {j : Nat} (hj : j < cur.size) : (w.cell? ⟨b, j, none⟩).isSome = true := by
  unfold World.cell?
  rw [h]
  simp [hj]
theorem cells_free {w : World} {b : Nat} {cur : Array Value} {t : TypeId} (h : w.heap[b]? = some (.cells cur t (0, 0))) (j : Nat) : w.frozen? ⟨b, j, none⟩ = false := by
  unfold World.frozen?
  rw [h]
  simp
theorem cells_shape {w : World} {b : Nat} {cur : Array Value} {t : TypeId} (h : w.heap[b]? = some (.cells cur t (0, 0))) : w.shape? b = some (t, cur.size) := by
  unfold World.shape?
  rw [h]
theorem isSome_set (b : Nat) (vs : List Value) (o : Nat) (w : World) (h : ∀ j, j < vs.length → (w.cell? ⟨b, o + j, none⟩).isSome = true) (k : Nat) (hk : (w.cell? ⟨b, k, none⟩).isSome = true) : ((w.setCells b o vs).cell? ⟨b, k, none⟩).isSome = true := by
  by_cases hin : o ≤ k ∧ k < o + vs.length
  · have := World.cell?_setCells_in b vs o w h (k - o) (by omega)
    rw [show o + (k - o) = k by omega] at this
    rw [this]; rfl
  · rw [World.cell?_setCells_out b vs o w ⟨b, k, none⟩ (fun _ _ => by show k < o ∨ o + vs.length ≤ k; omega)]
    exact hk

set_option maxRecDepth 100000 in
set_option maxHeartbeats 4000000 in
theorem insert_room (B0 : Nat) (b c n i : Nat) (x : Int) (vb vc : Nat) (l : List Int) (w : World) (hln : l.length = n) (hi : i < n) (hn : n ≤ 1000) (hc : n + 1 ≤ c)
    (hown : w.ownsRow B0 3 1 (.slice (some ⟨b, 0, none⟩) n c) n (l.map I)) (hv : w.heap[vb]? = some (.cells #[I x] 3 (0, 0))) (hvb : vb ≠ b) :
    Calls Try.prog 82 #[.slice (some ⟨b, 0, none⟩) n c, .int .i64 i, .slice (some ⟨vb, 0, none⟩) 1 vc] w fun e w' =>
      ∃ A' c', e = .returned (.slice A' (n + 1) c') ∧ w'.ownsRow B0 3 1 (.slice A' (n + 1) c') (n + 1) ((insA l i x).map I) ∧ Below B0 w w' := by
  obtain ⟨g, cap, cur, hve, hBb, hg, hncap, hcM, hcs, _⟩ := hown.2.resolve_left (fun h => by have := h.1; simp at this)
  simp only [Value.slice.injEq, Option.some.injEq, Addr.mk.injEq, and_true, true_and] at hve
  obtain ⟨rfl, rfl⟩ := hve
  have hcsz : cur.size = c := by omega
  have hcl : ∀ j v, (l.map I)[j]? = some v → w.cell? ⟨b, 0 + j, none⟩ = some v := fun j v hj => by
    have hjl : j < (l.map I).length := (List.getElem?_eq_some_iff.1 hj).1
    rw [Nat.zero_add, hown.cellAt j (by simp at hjl; omega), hj]
  have hsp : ∀ j, j < n + 1 → (w.cell? ⟨b, 0 + j, none⟩).isSome = true := fun j hj => by rw [Nat.zero_add]; exact cells_some hg (by omega)
  have hfz : ∀ j, j < n + 1 → w.frozen? ⟨b, 0 + j, none⟩ = false := fun j _ => cells_free hg _
  have hvs : ∀ j v, ([I x] : List Value)[j]? = some v → w.cell? ⟨vb, 0 + j, none⟩ = some v := fun j v hj => by
    match j, hj with
    | 0, hj => simp at hj; subst hj; unfold World.cell?; rw [hv]; simp
  have hz2 : ¬ ((i : Int) = (n : Int)) := by omega
  obtain ⟨i0, hi0, hz0, hz1, hz2'⟩ := info_parts info_int
  have hsz : (Try.prog.info? 3).map (·.size) = some 1 := by rw [hi0]; simp [hz1]
  have hov : ∀ lb cb, (callFunc 89 #[.slice (some ⟨vb, 0, none⟩) 1 vc, .slice (some ⟨b, i + 1, none⟩) lb cb]).run Try.prog w = .ok (.value (.bool false)) w := fun lb cb => by
    rw [run_callFunc_extern Try.func89 (by kernel_rfl) (by kernel_rfl) (by kernel_rfl) (e := Extern.SlicesOverlaps.overlaps #[22, 22] #[4]) (by kernel_rfl),
      Lib.run_overlaps_apart w 22 4 3 Try.underlying22 1 Try.sizeOf3 ⟨vb, 0, none⟩ ⟨b, i + 1, none⟩ 1 vc lb cb hvb 3 3 1 cur.size (cells_shape hv) (cells_shape hg) (by omega) (cells_free hv 0) (cells_free hv 1)]
    rfl
  have hdl : ((l.map I).drop i).length = n - i := by rw [List.length_drop, List.length_map, hln]
  have hw1 : IntKind.i64.wrap ((i : Int) + 1) = (i : Int) + 1 := IntWalk.i64_in _ (by omega)
  have hw2 : IntKind.i64.wrap ((n : Int) + 1) = (n : Int) + 1 := IntWalk.i64_in _ (by omega)
  have hb1 : (0 : Int) ≤ (i : Int) + 1 := by omega
  have hin : i ≤ n := by omega
  have htn : ((i : Int) + 1).toNat = i + 1 := by omega
  have htn2 : ((n : Int) + 1).toNat = n + 1 := by omega
  have hb2 : ¬ (c = i + 1) := by omega
  have hb3 : (i : Int) ≤ (n : Int) + 1 := by omega
  have hb4 : ¬ (c = i) := by omega
  have hroom : ¬ ((c : Int) < (n : Int) + 1) := by omega
  have hc1 : (n : Int) + 1 ≤ (c : Int) := by omega
  have h1c : ∀ v ∈ l.map I, v.oneCell' = true := ints_one l
  have hcp1 : ∀ ty dc sc, (Builtin.copy_ #[60, 60] ty #[.slice (some ⟨b, i + 1, none⟩) (n + 1 - (i + 1)) dc, .slice (some ⟨b, i, none⟩) (n + 1 - i) sc]).run Try.prog w.drew = .ok (goInt ((l.map I).drop i).length) (w.drew.setCells b (i + 1) ((l.map I).drop i)) := fun ty dc sc =>
    run_copy_cells w.drew _ _ ty 3 b (i + 1) (n + 1 - (i + 1)) dc ⟨b, i, none⟩ (n + 1 - i) sc ((l.map I).drop i) Try.underlying60 hsz (by rw [hdl]; simp only [Nat.min_def]; split <;> omega)
      (fun j v hj => by rw [Addr.add_lit]; have h := hcl (i + j) v (by rwa [List.getElem?_drop] at hj); rwa [Nat.zero_add] at h)
      (fun j hj => by have h := hsp (i + 1 + j) (by omega); rwa [Nat.zero_add] at h) (fun j _ => cells_free hg _) (fun v hv => h1c v (List.mem_of_mem_drop hv))
  obtain ⟨W1, hW1⟩ : ∃ W1, W1 = w.drew.setCells b (i + 1) ((l.map I).drop i) := ⟨_, rfl⟩
  have hsp1 : ∀ k, k < n + 1 → (W1.cell? ⟨b, k, none⟩).isSome = true := fun k hk => by
    rw [hW1]
    exact isSome_set b _ _ _ (fun j hj => by have h := hsp (i + 1 + j) (by omega); rwa [Nat.zero_add] at h) _ (by have h := hsp k hk; rwa [Nat.zero_add] at h)
  have hcp2 : ∀ (W : World), (∀ x, W.cell? x = W1.cell? x) → (∀ x, W.frozen? x = W1.frozen? x) → ∀ ty dc, (Builtin.copy_ #[60, 22] ty #[.slice (some ⟨b, i, none⟩) (n + 1 - i) dc, .slice (some ⟨vb, 0, none⟩) 1 vc]).run Try.prog W = .ok (goInt ([I x] : List Value).length) (W.setCells b i [I x]) := fun W hWc hWf ty dc =>
    run_copy_cells W _ _ ty 3 b i (n + 1 - i) dc ⟨vb, 0, none⟩ 1 vc [I x] Try.underlying60 hsz (by simp only [Nat.min_def, List.length_cons, List.length_nil]; split <;> omega)
      (fun j v hj => by
        rw [Addr.add_lit, hWc, hW1, World.cell?_setCells_out b _ _ _ _ (fun h _ => absurd h hvb)]
        exact hvs j v hj)
      (fun j hj => by rw [hWc]; exact hsp1 _ (by simp at hj; omega)) (fun j _ => by rw [hWf, hW1, World.frozen?_setCells]; exact cells_free hg _) (fun u hu => by simp at hu; subst hu; rfl)
  rw [← hW1] at hcp1
  have HW1 := Lib.hid hW1
  have HG := Lib.hid hg
  have HOWN := Lib.hid hown
  have HSP := Lib.hid hsp
  have HCS := Lib.hid hcsz
  have HSP1 := Lib.hid hsp1
  have HCL := Lib.hid hcl
  have HCP1 := Lib.hid hcp1
  have HCP2 := Lib.hid hcp2
  clear hW1 hg hown hsp hsp1 hcl hcp1 hcp2 hfz hvs h1c hv hi0 hz0 hz1 hz2' hsz hdl hcs hcsz hln
  go_enter Try.func82, Try.ntmps82
  go_wp2_with (simp only [hov])
  refine wp_region_Tw [0, 1, 2, 3, 4, 5, 6, 7] [] (.lp 0 (.lp 1 (.lp 2 (.lp 3 (.lp 4 (.lp 5 (.lp 6 (.lp 7 (.hv 8 (.done)))))))))) (by kernel_rfl) (by kernel_rfl) ?_
  (repeat (first | (refine T_lp rfl (fun K hK => ?_); go_simp; refine hK _ ?_; clear hK K) | (refine T_ls rfl rfl (fun K hK => ?_); go_simp; refine hK _ ?_; clear hK K)))
  refine T_hv rfl (by kernel_rfl) (fun K hK => ?_)
  refine step_copy rfl (.tmp 73) (.tmp 76) 60 60 rfl (.slice (some ⟨b, i + 1, none⟩) (n + 1 - (i + 1)) (c - (i + 1))) (.slice (some ⟨b, i, none⟩) (n + 1 - i) (c - i)) ?_ ?_ (HCP1.out _ _ _) ?_
  · simp [Act.eval]
  · simp [Act.eval]
  · (go_simp; refine hK _ _ ?_; clear hK K)
    refine T_done ?_
    have hc2 := HCP2.out W1 (fun _ => rfl) (fun _ => rfl) 3 (c - i)
    go_wp2_with (simp only [hc2])
    go_ret
    refine ⟨_, _, rfl, ?_, ?_⟩
    · obtain ⟨cu1, hc1', hs1⟩ := setCells_heap b ((l.map I).drop i) (i + 1) w.drew cur _ HG.out
      rw [← HW1.out] at hc1'
      obtain ⟨cu2, hc2', hs2⟩ := setCells_heap b [I x] i W1 cu1 _ hc1'
      have hdl : ((l.map I).drop i).length = l.length - i := by simp
      have hll : l.length = n := by have h := HOWN.out.1; simpa using h
      refine own_cells_mk hBb hc2' (by have := HCS.out; omega) hc hcM (by simp [insA_length l x (by omega : i ≤ l.length), hll]) (fun j hj => ?_)
      rw [insA_at l x (by omega : i ≤ l.length) j]
      by_cases h1 : j < i
      · rw [if_pos h1, World.cell?_setCells_out b _ _ _ _ (fun _ _ => by simp; omega), HW1.out, World.cell?_setCells_out b _ _ _ _ (fun _ _ => by simp; omega)]
        exact HOWN.out.cellAt j (by omega)
      · rw [if_neg h1]
        by_cases h2 : j = i
        · subst h2
          rw [if_pos rfl]
          have h := World.cell?_setCells_in b [I x] j W1 (fun t ht => by have := HSP1.out (j + t) (by simp at ht; omega); exact this) 0 (by simp)
          rw [Nat.add_zero] at h
          rw [h]
          rfl
        · rw [if_neg h2, World.cell?_setCells_out b _ _ _ _ (fun _ _ => by simp; omega), HW1.out]
          have h := World.cell?_setCells_in b ((l.map I).drop i) (i + 1) w.drew (fun t ht => by have := HSP.out (i + 1 + t) (by omega); rw [Nat.zero_add] at this; exact this) (j - (i + 1)) (by omega)
          rw [show i + 1 + (j - (i + 1)) = j by omega] at h
          rw [h, List.getElem_drop, List.getElem?_eq_getElem (by simp; omega)]
          congr 2
          omega
    · refine setCells_below hBb _ _ _ _ ?_
      rw [HW1.out]
      exact setCells_below hBb _ _ _ _ (Below.refl _ _).drew

theorem cell_blk {w : World} {b o : Nat} {v : Value} (h : w.cell? ⟨b, o, none⟩ = some v) : b < w.heap.size := by
  unfold World.cell? at h
  simp only at h
  cases hb : w.heap[b]? with
  | none => rw [hb] at h; simp at h
  | some o => exact (Array.getElem?_eq_some_iff.1 hb).1

set_option maxRecDepth 100000 in
set_option maxHeartbeats 4000000 in
theorem insert_grow (B0 : Nat) (b c n i : Nat) (x : Int) (vb vc : Nat) (l : List Int) (w : World) (hln : l.length = n) (hi : i < n) (hn : n ≤ 1000) (hc : c < n + 1) (hB : B0 ≤ w.heap.size)
    (hown : w.ownsRow B0 3 1 (.slice (some ⟨b, 0, none⟩) n c) n (l.map I)) (hv : w.heap[vb]? = some (.cells #[I x] 3 (0, 0))) :
    Calls Try.prog 82 #[.slice (some ⟨b, 0, none⟩) n c, .int .i64 i, .slice (some ⟨vb, 0, none⟩) 1 vc] w fun e w' =>
      ∃ A' c', e = .returned (.slice A' (n + 1) c') ∧ w'.ownsRow B0 3 1 (.slice A' (n + 1) c') (n + 1) ((insA l i x).map I) ∧ Below B0 w w' := by
  obtain ⟨g, cap, cur, hve, hBb, hg, hncap, hcM, hcs, _⟩ := hown.2.resolve_left (fun h => by have := h.1; simp at this)
  simp only [Value.slice.injEq, Option.some.injEq, Addr.mk.injEq, and_true, true_and] at hve
  obtain ⟨rfl, rfl⟩ := hve
  have hcl : ∀ j v, (l.map I)[j]? = some v → w.cell? ⟨b, 0 + j, none⟩ = some v := fun j v hj => by
    have hjl : j < (l.map I).length := (List.getElem?_eq_some_iff.1 hj).1
    rw [Nat.zero_add, hown.cellAt j (by simp at hjl; omega), hj]
  have hvs : ∀ j v, ([I x] : List Value)[j]? = some v → w.cell? ⟨vb, 0 + j, none⟩ = some v := fun j v hj => by
    match j, hj with
    | 0, hj => simp at hj; subst hj; unfold World.cell?; rw [hv]; simp
  have hbw : b < w.heap.size := (Array.getElem?_eq_some_iff.1 hg).1
  have hvw : vb < w.heap.size := (Array.getElem?_eq_some_iff.1 hv).1
  have hz2 : ¬ ((i : Int) = (n : Int)) := by omega
  obtain ⟨i0, hi0, hz0, hz1, hz2'⟩ := info_parts info_int
  have hsz : (Try.prog.info? 3).map (·.size) = some 1 := by rw [hi0]; simp [hz1]
  have hlm : (l.map I).length = n := by simp [hln]
  have hkk : (n : Int) + 1 - (i : Int) = ((n + 1 - i : Nat) : Int) := by omega
  have hik : i + (n + 1 - i) = n + 1 := by omega
  have hold : (Builtin.firstCells i0.size i (.slice (some ⟨b, 0, none⟩) i c)).run Try.prog w.drew = .ok ((l.map I).take i).toArray w.drew := by
    rw [hz1]
    exact run_firstCells_some w.drew 1 i ⟨b, 0, none⟩ i c ((l.map I).take i) (by rw [List.length_take]; omega) (fun j v hj => by
      rw [Addr.add_lit]
      rw [List.getElem?_take] at hj
      split at hj
      · exact hcl j v hj
      · cases hj)
  have hrz : ∀ ty, (Builtin.append_ #[60, 3] ty #[.slice (some ⟨b, 0, none⟩) i c, .int .i64 ((n : Int) + 1 - (i : Int))]).run Try.prog w =
      .ok (.slice (some ⟨w.heap.size, 0, none⟩) (n + 1) (grownCap w (n + 1) c 3)) (w.drew.alloc (.cells (((l.map I).take i).toArray ++ Builtin.zeroCells (Value.int .i64 0).cells (n + 1 - i) ++ Builtin.zeroCells (Value.int .i64 0).cells (grownCap w (n + 1) c 3 - (n + 1))) 3)) := fun ty => by
    have h := Lib.run_append_grow_zeros w 60 3 ty 3 i0 _ .i64 .i64 Try.underlying60 Try.underlying3 hi0 hz0 (some ⟨b, 0, none⟩) i c ((l.map I).take i) hold (n + 1 - i) (by omega) (by omega) (by omega) (by omega) (by rw [hz2']; omega) (by rw [hz2', hik]; exact growslice_fits hc (by omega))
    rw [hik] at h
    rw [hkk]
    exact h
  have hGn : n + 1 ≤ grownCap w (n + 1) c 3 := grownCap_ge w _ _ _
  have hGM : grownCap w (n + 1) c 3 ≤ maxLen := grownCap_le_maxLen w (n + 1) c 3 (by unfold maxLen; omega)
  obtain ⟨G, hG⟩ : ∃ G, G = grownCap w (n + 1) c 3 := ⟨_, rfl⟩
  rw [← hG] at hrz hGn hGM
  obtain ⟨ROW, hROW⟩ : ∃ ROW : Array Value, ROW = ((l.map I).take i).toArray ++ Builtin.zeroCells (Value.int .i64 0).cells (n + 1 - i) ++ Builtin.zeroCells (Value.int .i64 0).cells (G - (n + 1)) := ⟨_, rfl⟩
  have hRs : ROW.size = G := by
    rw [hROW]
    simp [Builtin.zeroCells, Value.cells]
    omega
  have hRat : ∀ j, j < i → ROW[j]? = (l.map I)[j]? := fun j hj => by
    rw [hROW, Array.getElem?_append_left (by simp [Builtin.zeroCells, Value.cells]; omega), Array.getElem?_append_left (by simp; omega)]
    simp [hj]
  rw [← hROW] at hrz
  obtain ⟨W1, hW1⟩ : ∃ W1, W1 = w.drew.alloc (.cells ROW 3) := ⟨_, rfl⟩
  rw [← hW1] at hrz
  have hR1 : ∀ j, W1.cell? ⟨w.heap.size, j, none⟩ = ROW[j]? := fun j => by rw [hW1, World.cell?_alloc_at (w := w.drew) ROW _ w.heap.size j rfl]
  have hN : ∀ j, j < n + 1 → (W1.cell? ⟨w.heap.size, j, none⟩).isSome = true := fun j hj => by
    rw [hR1, Array.getElem?_eq_getElem (by omega)]; rfl
  have hNf : ∀ j, W1.frozen? ⟨w.heap.size, j, none⟩ = false := fun j => by rw [hW1]; exact World.frozen?_alloc_at (w := w.drew) ROW _ w.heap.size j rfl
  have hOb : ∀ j v, w.cell? ⟨b, j, none⟩ = some v → W1.cell? ⟨b, j, none⟩ = some v := fun j v h => by rw [hW1, World.cell?_alloc_past (w := w.drew) _ b j hbw]; exact h
  have hOv : ∀ j v, w.cell? ⟨vb, j, none⟩ = some v → W1.cell? ⟨vb, j, none⟩ = some v := fun j v h => by rw [hW1, World.cell?_alloc_past (w := w.drew) _ vb j hvw]; exact h
  have hbN : b ≠ w.heap.size := by omega
  have hdl : ((l.map I).drop i).length = n - i := by rw [List.length_drop, hlm]
  have h1c : ∀ v ∈ l.map I, v.oneCell' = true := ints_one l
  have hcpA : ∀ (W : World), (∀ x, W.cell? x = W1.cell? x) → (∀ x, W.frozen? x = W1.frozen? x) → ∀ ty dc, (Builtin.copy_ #[60, 22] ty #[.slice (some ⟨w.heap.size, i, none⟩) (n + 1 - i) dc, .slice (some ⟨vb, 0, none⟩) 1 vc]).run Try.prog W = .ok (goInt ([I x] : List Value).length) (W.setCells w.heap.size i [I x]) := fun W hWc hWf ty dc =>
    run_copy_cells W _ _ ty 3 w.heap.size i (n + 1 - i) dc ⟨vb, 0, none⟩ 1 vc [I x] Try.underlying60 hsz (by simp only [Nat.min_def, List.length_cons, List.length_nil]; split <;> omega)
      (fun j v hj => by rw [Addr.add_lit, hWc]; exact hOv _ v (hvs j v hj))
      (fun j hj => by rw [hWc]; exact hN _ (by simp at hj; omega)) (fun j _ => by rw [hWf]; exact hNf _) (fun u hu => by simp at hu; subst hu; rfl)
  have hcpB : ∀ (W : World), (∀ y, W.cell? y = (W1.setCells w.heap.size i [I x]).cell? y) → (∀ y, W.frozen? y = (W1.setCells w.heap.size i [I x]).frozen? y) → ∀ ty dc sc, (Builtin.copy_ #[60, 60] ty #[.slice (some ⟨w.heap.size, i + 1, none⟩) (n + 1 - (i + 1)) dc, .slice (some ⟨b, i, none⟩) (n - i) sc]).run Try.prog W = .ok (goInt ((l.map I).drop i).length) (W.setCells w.heap.size (i + 1) ((l.map I).drop i)) := fun W hWc hWf ty dc sc =>
    run_copy_cells W _ _ ty 3 w.heap.size (i + 1) (n + 1 - (i + 1)) dc ⟨b, i, none⟩ (n - i) sc ((l.map I).drop i) Try.underlying60 hsz (by rw [hdl]; simp only [Nat.min_def]; split <;> omega)
      (fun j v hj => by
        rw [Addr.add_lit, hWc, World.cell?_setCells_out _ _ _ _ _ (fun h _ => absurd h hbN)]
        have h := hcl (i + j) v (by rwa [List.getElem?_drop] at hj)
        rw [Nat.zero_add] at h
        exact hOb _ v h)
      (fun j hj => by rw [hWc]; exact isSome_set _ _ _ _ (fun t ht => hN _ (by simp at ht; omega)) _ (hN _ (by omega)))
      (fun j _ => by rw [hWf, World.frozen?_setCells]; exact hNf _) (fun v hv => h1c v (List.mem_of_mem_drop hv))
  have hGi : ¬ (G = i) := by omega
  have hGim : ¬ (G = i + 1) := by omega
  have hci : ¬ (c = i) := by omega
  have hz3 : (c : Int) < (n : Int) + 1 := by omega
  have hG63 : G ≤ 9223372036854775807 := by unfold maxLen at hGM; omega
  have hw1 : IntKind.i64.wrap ((i : Int) + 1) = (i : Int) + 1 := IntWalk.i64_in _ (by omega)
  have hw2 : IntKind.i64.wrap ((n : Int) + 1) = (n : Int) + 1 := IntWalk.i64_in _ (by omega)
  have hw3 : IntKind.i64.wrap ((n : Int) + 1 - (i : Int)) = (n : Int) + 1 - (i : Int) := IntWalk.i64_in _ (by omega)
  have hb1 : (0 : Int) ≤ (i : Int) + 1 := by omega
  have hin : i ≤ n := by omega
  have htn : ((i : Int) + 1).toNat = i + 1 := by omega
  have hb3 : (i : Int) ≤ (n : Int) := by omega
  have HW1 := Lib.hid hW1
  have HRAT := Lib.hid hRat
  have HR1 := Lib.hid hR1
  have HRS := Lib.hid hRs
  have HN := Lib.hid hN
  have HLM := Lib.hid hlm
  have HCB := Lib.hid hcpB
  have HCA := Lib.hid hcpA
  have HRZ := Lib.hid hrz
  clear hkk hik hold hROW hG hRs hRat hR1 hN hNf hOb hOv hcpA hcpB hrz hown hg hv hcl hvs hi0 hz0 hz1 hz2' hsz hdl h1c hcs hlm hW1 hln
  have hW1s : W1.heap.size = w.heap.size + 1 := by rw [HW1.out]; simp
  have hA1 := HCA.out W1 (fun _ => rfl) (fun _ => rfl) 3 (G - i)
  go_enter Try.func82, Try.ntmps82
  go_wp2_with (first
    | (at_builtin; refine Lib.wpList_append_run _ rfl _ _ _ _ rfl _ _ rfl rfl _ _ (HRZ.out _) ?_)
    | simp only [hA1])
  clear hA1
  refine wp_region_Tw [0, 1, 2, 3, 4, 5, 6, 7] [] (.lp 0 (.lp 1 (.lp 2 (.lp 3 (.lp 4 (.lp 5 (.lp 6 (.lp 7 (.hv 8 (.done)))))))))) (by kernel_rfl) (by kernel_rfl) ?_
  (repeat (first | (refine T_lp rfl (fun K hK => ?_); go_simp; refine hK _ ?_; clear hK K) | (refine T_ls rfl rfl (fun K hK => ?_); go_simp; refine hK _ ?_; clear hK K)))
  refine T_hv rfl (by kernel_rfl) (fun K hK => ?_)
  refine step_copy rfl (.tmp 50) (.tmp 53) 60 60 rfl (.slice (some ⟨w.heap.size, i + 1, none⟩) (n + 1 - (i + 1)) (G - (i + 1))) (.slice (some ⟨b, i, none⟩) (n - i) (c - i)) ?_ ?_ (HCB.out (W1.setCells w.heap.size i [I x]).drew (fun _ => rfl) (fun _ => rfl) _ _ _) ?_
  · simp [Act.eval]
  · simp [Act.eval]
  · (go_simp; refine hK _ _ ?_; clear hK K)
    refine T_done ?_
    go_wp2
    go_ret
    refine ⟨_, _, rfl, ?_, ?_⟩
    · have hg1 : W1.heap[w.heap.size]? = some (.cells ROW 3 (0, 0)) := by rw [HW1.out]; exact Array.getElem?_push_size
      obtain ⟨cu1, hc1', hs1⟩ := setCells_heap w.heap.size [I x] i W1 ROW _ hg1
      obtain ⟨cu2, hc2', hs2⟩ := setCells_heap w.heap.size ((l.map I).drop i) (i + 1) (W1.setCells w.heap.size i [I x]).drew cu1 _ hc1'
      have hdl : ((l.map I).drop i).length = l.length - i := by simp
      have hll : l.length = n := by have h := HLM.out; simpa using h
      refine own_cells_mk hB hc2' (by have := HRS.out; omega) hGn hGM (by simp [insA_length l x (by omega : i ≤ l.length), hll]) (fun j hj => ?_)
      rw [insA_at l x (by omega : i ≤ l.length) j]
      by_cases h1 : j < i
      · rw [if_pos h1, World.cell?_setCells_out _ _ _ _ _ (fun _ _ => by simp; omega)]
        rw [show ((W1.setCells w.heap.size i [I x]).drew).cell? ⟨w.heap.size, j, none⟩ = (W1.setCells w.heap.size i [I x]).cell? ⟨w.heap.size, j, none⟩ from rfl, World.cell?_setCells_out _ _ _ _ _ (fun _ _ => by simp; omega), HR1.out, HRAT.out j h1]
      · rw [if_neg h1]
        by_cases h2 : j = i
        · subst h2
          rw [if_pos rfl, World.cell?_setCells_out _ _ _ _ _ (fun _ _ => by simp)]
          rw [show ((W1.setCells w.heap.size j [I x]).drew).cell? ⟨w.heap.size, j, none⟩ = (W1.setCells w.heap.size j [I x]).cell? ⟨w.heap.size, j, none⟩ from rfl]
          have h := World.cell?_setCells_in w.heap.size [I x] j W1 (fun t ht => HN.out (j + t) (by simp at ht; omega)) 0 (by simp)
          rw [Nat.add_zero] at h
          rw [h]
          rfl
        · rw [if_neg h2]
          have h := World.cell?_setCells_in w.heap.size ((l.map I).drop i) (i + 1) (W1.setCells w.heap.size i [I x]).drew (fun t ht => isSome_set _ _ _ _ (fun t' ht' => HN.out _ (by simp at ht'; omega)) _ (HN.out _ (by omega))) (j - (i + 1)) (by omega)
          rw [show i + 1 + (j - (i + 1)) = j by omega] at h
          rw [h, List.getElem_drop, List.getElem?_eq_getElem (by simp; omega)]
          congr 2
          omega
    · refine setCells_below hB _ _ _ _ ?_
      refine (setCells_below hB _ _ _ _ ?_).drew
      rw [HW1.out]
      exact (Below.refl _ _).drew.alloc hB _
end Go.Proofs.Ytbbjgcagkmlngac
/- A number put into a rising list. -/
namespace Go.Proofs.Ytbbjgcagkmlngac
open Go.RowKit

theorem insert_any (B0 : Nat) (A : Option Addr) (c n i : Nat) (x : Int) (vb vc : Nat) (l : List Int) (w : World) (hln : l.length = n) (hi : i ≤ n) (hn : n ≤ 1000) (hB : B0 ≤ w.heap.size)
    (hown : w.ownsRow B0 3 1 (.slice A n c) n (l.map I)) (hv : w.heap[vb]? = some (.cells #[I x] 3 (0, 0))) (hne : (Value.slice A n c).ownBlock ≠ some vb) :
    Calls Try.prog 82 #[.slice A n c, .int .i64 i, .slice (some ⟨vb, 0, none⟩) 1 vc] w fun e w' =>
      ∃ A' c', e = .returned (.slice A' (n + 1) c') ∧ w'.ownsRow B0 3 1 (.slice A' (n + 1) c') (n + 1) ((insA l i x).map I) ∧ Below B0 w w' := by
  by_cases h : i = n
  · subst h
    exact insert_end B0 A c i x vb vc l w hln hn hB hown (by unfold World.cell?; rw [hv]; simp)
  · obtain ⟨g, rfl, _, _, _, _⟩ := own_at hown (by omega)
    by_cases hc : n + 1 ≤ c
    · exact insert_room B0 g c n i x vb vc l w hln (by omega) hn hc hown hv (fun h => hne (by rw [h]; rfl))
    · exact insert_grow B0 g c n i x vb vc l w hln (by omega) hn (by omega) hB hown hv

/-- The list with x at its place. -/
def putI (l : List Int) (x : Int) : List Int := if x ∈ l then l else insA l (cnt l x) x
theorem putI_has {l : List Int} {x : Int} (h : x ∈ l) : putI l x = l := by unfold putI; rw [if_pos h]
theorem putI_new {l : List Int} {x : Int} (h : ¬ x ∈ l) : putI l x = insA l (cnt l x) x := by unfold putI; rw [if_neg h]
theorem cnt_le (l : List Int) (x : Int) : cnt l x ≤ l.length := List.countP_le_length
theorem putI_le (l : List Int) (x : Int) : (putI l x).length ≤ l.length + 1 := by
  unfold putI
  split
  · omega
  · rw [insA_length l x (cnt_le l x)]; omega
theorem insA_getD (l : List Int) {i : Nat} (x : Int) (hi : i ≤ l.length) (j : Nat) : (insA l i x).getD j 0 = if j < i then l.getD j 0 else if j = i then x else l.getD (j - 1) 0 := by
  unfold insA
  rw [List.getD_eq_getElem?_getD]
  by_cases h1 : j < i
  · rw [if_pos h1, List.getElem?_append_left (by simp; omega), List.getElem?_take, if_pos h1, List.getD_eq_getElem?_getD]
  · rw [if_neg h1, List.getElem?_append_right (by simp; omega)]
    have e : (List.take i l).length = i := by simp; omega
    rw [e]
    by_cases h2 : j = i
    · subst h2
      simp
    · rw [if_neg h2, show j - i = (j - i - 1) + 1 by omega, List.getElem?_cons_succ, List.getElem?_drop, List.getD_eq_getElem?_getD, show i + (j - i - 1) = j - 1 by omega]
/-- What lies before the place is less, what lies behind it greater. -/
theorem cnt_parts {l : List Int} (ha : Asc l) (x : Int) : (∀ t, t < cnt l x → l.getD t 0 < x) ∧ ∀ t, cnt l x ≤ t → t < l.length → x ≤ l.getD t 0 := by
  have key : ∀ n, n ≤ l.length → ∃ i, i ≤ n ∧ (∀ t, t < i → l.getD t 0 < x) ∧ ∀ t, i ≤ t → t < n → x ≤ l.getD t 0 := by
    intro n
    induction n with
    | zero => intro _; exact ⟨0, by omega, fun t h => absurd h (by omega), fun t _ h => absurd h (by omega)⟩
    | succ n ih =>
      intro hn
      obtain ⟨i, h1, h2, h3⟩ := ih (by omega)
      by_cases hi : i = n
      · by_cases hx : l.getD n 0 < x
        · refine ⟨n + 1, by omega, fun t ht => ?_, fun t h h' => absurd h (by omega)⟩
          rcases Nat.lt_or_eq_of_le (Nat.le_of_lt_succ ht) with h | rfl
          · exact h2 t (by omega)
          · exact hx
        · refine ⟨i, by omega, h2, fun t h h' => ?_⟩
          have : t = n := by omega
          subst this
          omega
      · refine ⟨i, by omega, h2, fun t h h' => ?_⟩
        rcases Nat.lt_or_eq_of_le (Nat.le_of_lt_succ h') with h'' | rfl
        · exact h3 t h h''
        · have := h3 i (Nat.le_refl _) (by omega)
          have := ha i t (by omega) (by omega)
          omega
  obtain ⟨i, h1, h2, h3⟩ := key l.length (Nat.le_refl _)
  rw [cnt_at h1 h2 h3]
  exact ⟨h2, h3⟩
theorem mem_getD {l : List Int} {t : Nat} (h : t < l.length) : l.getD t 0 ∈ l := by
  have e : l.getD t 0 = l[t] := by simp [h]
  rw [e]
  exact List.getElem_mem h
theorem putI_asc {l : List Int} (ha : Asc l) (x : Int) : Asc (putI l x) := by
  by_cases hx : x ∈ l
  · rw [putI_has hx]; exact ha
  · rw [putI_new hx]
    obtain ⟨h1, h2⟩ := cnt_parts ha x
    have hc := cnt_le l x
    intro i j hij hj
    rw [insA_length l x hc] at hj
    rw [insA_getD l x hc, insA_getD l x hc]
    have h3 : ∀ t, cnt l x ≤ t → t < l.length → x < l.getD t 0 := fun t h h' => by
      have := h2 t h h'
      rcases Int.lt_or_eq_of_le this with h4 | h4
      · exact h4
      · exact absurd (h4 ▸ mem_getD h') hx
    by_cases c1 : i < cnt l x
    · rw [if_pos c1]
      by_cases c2 : j < cnt l x
      · rw [if_pos c2]; exact ha i j hij (by omega)
      · rw [if_neg c2]
        by_cases c3 : j = cnt l x
        · rw [if_pos c3]; exact h1 i c1
        · rw [if_neg c3]; exact ha i (j - 1) (by omega) (by omega)
    · rw [if_neg c1, if_neg (by omega : ¬ j < cnt l x), if_neg (by omega : ¬ j = cnt l x)]
      by_cases c3 : i = cnt l x
      · rw [if_pos c3]; exact h3 (j - 1) (by omega) (by omega)
      · rw [if_neg c3]; exact ha (i - 1) (j - 1) (by omega) (by omega)

set_option maxRecDepth 100000 in
set_option maxHeartbeats 2000000 in
theorem with_any (B : Nat) (A : Option Addr) (c : Nat) (l : List Int) (x : Int) (w : World) (hm : l.length ≤ 500) (ha : Asc l) (hA : l = [] → A = none ∧ c = 0) (hB : B ≤ w.heap.size) (hr : Rd w B 1 A l.length (l.map I)) :
    Calls Try.prog 67 #[.slice A l.length c, .int .i64 x] w fun e w' =>
      ∃ A' c', e = .returned (.slice A' (putI l x).length c') ∧ OwI w' w.heap.size (.slice A' (putI l x).length c') (putI l x) ∧ Below w.heap.size w w' := by
  have hcl : Calls Try.prog 81 #[.slice A l.length c] w fun e w' => ∃ A' c', e = .returned (.slice A' l.length c') ∧ OwI w' w.heap.size (.slice A' l.length c') l ∧ Below w.heap.size w w' := by
    by_cases h0 : 0 < l.length
    · exact cloneA_any B A c l w (by omega) h0 hB hr
    · have hl : l = [] := List.eq_nil_of_length_eq_zero (by omega)
      obtain ⟨rfl, rfl⟩ := hA hl
      subst hl
      refine (cloneA_nil w).mono ?_
      rintro e w' ⟨rfl, rfl⟩
      exact ⟨none, 0, rfl, OwI.nil _ _, Below.refl _ _⟩
  have hF := fun (W : World) (hb : Below w.heap.size w W) => find_any B A c l x W (by omega) ha (hr.below' hb hB)
  have hcx := cnt_le l x
  obtain ⟨a, haa⟩ : ∃ a, cnt l x = a := ⟨_, rfl⟩
  rw [haa] at hF hcx
  have HCL := Lib.hid hcl
  have AA := Lib.hid haa
  clear hcl hr ha hA haa
  by_cases hx : x ∈ l
  · rw [decide_eq_true hx] at hF
    have P := Lib.hid (putI_has hx)
    have HF := Lib.hid hF
    clear hF hx
    go_enter Try.func67, Try.ntmps67
    go_wp2_with (first
      | (go_at_call 81; refine HCL.out.mono ?_; rintro e w2 ⟨A2, c2, rfl, hown2, hb2⟩; have OW2 := Lib.hid hown2; have HB2 := Lib.hid hb2; clear hown2 hb2)
      | (go_at_call 75; refine (HF.out w2 HB2.out).mono ?_; rintro e w3 ⟨rfl, ⟨nd, rfl⟩⟩))
    go_ret
    exact ⟨A2, c2, by rw [P.out]; rfl, by rw [P.out]; exact OwI.drewN OW2.out nd, bDrewN HB2.out nd⟩
  · rw [decide_eq_false hx] at hF
    have P := Lib.hid (putI_new hx)
    have HF := Lib.hid hF
    clear hF hx
    obtain ⟨N, hN⟩ : ∃ N, l.length = N := ⟨_, rfl⟩
    have HN := Lib.hid hN
    have hNb : N ≤ 500 := by omega
    have haN : a ≤ N := by omega
    have HCL' := HCL.out
    have HF' := HF.out
    rw [hN] at HCL' HF'
    rw [hN]
    have C1 := Lib.hid HCL'
    have F1 := Lib.hid HF'
    clear HCL' HF' HCL HF hN hm hcx
    go_enter Try.func67, Try.ntmps67
    go_wp2_with (first
      | (go_at_call 81; refine C1.out.mono ?_; rintro e w2 ⟨A2, c2, rfl, hown2, hb2⟩; have OW2 := Lib.hid (show w2.ownsRow w.heap.size 3 1 (.slice A2 N c2) N (l.map I) from (by have h := hown2; unfold OwI at h; rw [HN.out] at h; exact h)); have HB2 := Lib.hid hb2; have hs2 : w.heap.size ≤ w2.heap.size := hb2.size; clear hown2 hb2)
      | (go_at_call 75; refine (F1.out w2 HB2.out).mono ?_; rintro e w3 ⟨rfl, ⟨nd, rfl⟩⟩))
    go_at_call 82
    generalize hw4 : World.alloc _ _ = w4
    have hg4 : w4.heap[w2.heap.size]? = some (.cells #[I x] 3 (0, 0)) := by rw [← hw4]; exact Array.getElem?_push_size
    have hb4 : Below w2.heap.size w2 w4 := by rw [← hw4]; exact (bDrewN (Below.refl _ _) nd).alloc (Nat.le_refl _) _
    clear hw4
    have hown4 := own_below OW2.out hb4
    have hne : (Value.slice A2 N c2).ownBlock ≠ some w2.heap.size := fun h => by
      have := (own_block OW2.out _ h).2
      omega
    refine (insert_any w.heap.size A2 c2 N a x w2.heap.size 1 l w4 HN.out haN (by omega) (by have := hb4.size; omega) hown4 hg4 hne).mono ?_
    rintro e w5 ⟨A5, c5, rfl, hown5, hb5⟩
    have hpl : (putI l x).length = N + 1 := by rw [P.out, AA.out, insA_length l x (by have := HN.out; omega), HN.out]
    have HB5 := Lib.hid ((HB2.out.trans (hb4.mono hs2)).trans hb5)
    have OW5 := Lib.hid (show OwI w5 w.heap.size (.slice A5 (N + 1) c5) (putI l x) from (by unfold OwI; rw [hpl, P.out, AA.out]; exact hown5))
    have HPL := Lib.hid hpl
    clear hown5 hb5 hown4 hb4 hg4 hne hpl
    go_wp2
    go_ret
    exact ⟨A5, c5, by rw [HPL.out]; rfl, by rw [HPL.out]; exact OW5.out, HB5.out⟩
end Go.Proofs.Ytbbjgcagkmlngac
/- What is in both of two chains. -/
namespace Go.Proofs.Ytbbjgcagkmlngac
open Go.RowKit

theorem hasI_mem (l : List Int) (n : Int) : hasI l n = decide (n ∈ l) := by unfold hasI; exact List.contains_eq_mem n l
def metK (a b : List Int) (k : Nat) : List Int := (a.take k).filter fun n => hasI b n
def met (a b : List Int) : List Int := a.filter fun n => hasI b n
theorem metK_end (a b : List Int) : metK a b a.length = met a b := by unfold metK met; rw [List.take_length]
theorem metK_hit {a b : List Int} {k : Nat} (hk : k < a.length) (h : hasI b (a.getD k 0) = true) : metK a b (k + 1) = metK a b k ++ [a.getD k 0] := by
  unfold metK
  rw [take_succ_getD hk, List.filter_append]
  simp only [List.filter_cons, List.filter_nil, h]
  rfl
theorem metK_miss {a b : List Int} {k : Nat} (hk : k < a.length) (h : hasI b (a.getD k 0) = false) : metK a b (k + 1) = metK a b k := by
  unfold metK
  rw [take_succ_getD hk, List.filter_append]
  simp only [List.filter_cons, List.filter_nil, h]
  simp
theorem metK_le (a b : List Int) (k : Nat) : (metK a b k).length ≤ k := by
  unfold metK
  exact Nat.le_trans (List.length_filter_le _ _) (by simp; omega)
theorem met_le (a b : List Int) : (met a b).length ≤ a.length := List.length_filter_le _ _
def meG (a b : List Int) : Bool := (chG a && chG b) && chG (met a b)

theorem hasA_any (B : Nat) (A : Option Addr) (c : Nat) (l : List Int) (x : Int) (w : World) (hm : l.length ≤ 4000000) (ha : Asc l) (hr : Rd w B 1 A l.length (l.map I)) :
    Calls Try.prog 66 #[.slice A l.length c, .int .i64 x] w fun e w' => e = .returned (.bool (hasI l x)) ∧ Dr w w' := by
  have hF := find_any B A c l x w hm ha hr
  rw [← hasI_mem] at hF
  have H := Lib.hid hF
  clear ha hr hF
  go_enter Try.func66, Try.ntmps66
  go_wp2_with (go_at_call 75; refine H.out.mono ?_; rintro e w' ⟨rfl, hd⟩)
  go_ret
  exact ⟨rfl, hd⟩

set_option maxRecDepth 100000 in
set_option maxHeartbeats 2000000 in
theorem meet_any (B : Nat) (A : Option Addr) (c : Nat) (a : List Int) (A1 : Option Addr) (c1 : Nat) (b : List Int) (w : World) (ha : Chn a) (hb : Chn b) (hB : B ≤ w.heap.size) (hr : Rd w B 1 A a.length (a.map I)) (hr1 : Rd w B 1 A1 b.length (b.map I)) :
    Calls Try.prog 68 #[.slice A a.length c, .slice A1 b.length c1] w fun e w' =>
      ∃ A' c', e = .returned (.slice A' (met a b).length c') ∧ OwI w' w.heap.size (.slice A' (met a b).length c') (met a b) ∧ Below w.heap.size w w' := by
  obtain ⟨g, off, rfl, hbB, hc⟩ := hr.cells (by have := ha.pos; omega)
  have HC := Lib.hid hc
  have H1 := Lib.hid hr1
  have hla := ha.most
  have hlb := hb.most
  have HB := Lib.hid hb.asc
  clear hr hr1 hc ha hb
  go_enter Try.func68, Try.ntmps68
  go_wp2
  go_loopw [5, 10] (fun ov iv wr => ∃ (k n : Nat) (A2 : Option Addr) (c2 : Nat), k ≤ a.length ∧ iv = .int .i64 k ∧ ov = .slice A2 n c2 ∧ n = (metK a b k).length ∧ wr.ownsRow w.heap.size 3 1 (.slice A2 n c2) n ((metK a b k).map I) ∧ Below w.heap.size w wr) (fun _ i _ => a.length - (intOf i).toNat)
  case atStart => exact ⟨0, 0, none, 0, by omega, rfl, rfl, rfl, World.ownsRow_nil _ _ _ _, Below.refl _ _⟩
  case round =>
    obtain ⟨k, n, A2, c2, hk, rfl, rfl, hn, hown, hbel⟩ := hrel
    have OWN := Lib.hid hown
    have BEL := Lib.hid hbel
    have HN := Lib.hid hn
    have hs : w.heap.size ≤ wr.heap.size := hbel.size
    have hnb : n ≤ 41 := by rw [hn]; exact Nat.le_trans (metK_le a b k) (by omega)
    clear hown hbel hn
    by_cases hlt : k < a.length
    · have ik : (k : Int) < (a.length : Int) := by omega
      have ck := (BEL.out.cell (p := ⟨g, off + k, none⟩) (by simp only []; omega)).trans (HC.out k hlt)
      have hh := metK_hit (b := b) hlt
      have hm := metK_miss (b := b) hlt
      obtain ⟨x, hx⟩ : ∃ x, a.getD k 0 = x := ⟨_, rfl⟩
      rw [hx] at ck hh hm
      have hH := hasA_any B A1 c1 b x wr (by omega) HB.out (H1.out.below' BEL.out hB)
      clear hx
      cases hq : hasI b x with
      | true =>
        have S := Lib.hid (hh hq)
        rw [hq] at hH
        have HH := Lib.hid hH
        clear hh hm hH hq
        go_wp2_with (first
          | (go_at_call 66; refine HH.out.mono ?_; rintro e w5 ⟨rfl, ⟨nd, rfl⟩⟩)
          | (at_builtin; refine list_step (fun K hK => ?_); refine step_app1 Try.underlying60 info_int rfl (by omega) rfl (.tmp 17) (.tmp 19) rfl w.heap.size n _ ((metK a b k).map I) rfl (World.ownsRow.alloc (own_below OWN.out (bDrewN (Below.refl _ wr) nd)) _) (wr.drewN nd).heap.size 1 (I x) rfl (by rw [World.cell?_alloc_at _ _ _ _ rfl]; rfl) rfl (by omega) (by simp; omega) ?_; intro A5 c5 w6 hown6 hg6 hbel6; go_simp; refine hK _ _ ?_; clear hK K))
        go_roundw
        case rel =>
          refine ⟨k + 1, n + 1, A5, c5, by omega, by go_num, rfl, by rw [S.out, List.length_append, ← HN.out]; rfl, ?_, ((bDrewN BEL.out nd).alloc (by simp; omega) _).trans hbel6⟩
          rw [S.out, List.map_append]
          exact hown6
        case measure => simp [intOf]; omega
      | false =>
        have S := Lib.hid (hm hq)
        rw [hq] at hH
        have HH := Lib.hid hH
        clear hh hm hH hq
        go_wp2_with (go_at_call 66; refine HH.out.mono ?_; rintro e w5 ⟨rfl, ⟨nd, rfl⟩⟩)
        go_roundw
        case rel => exact ⟨k + 1, n, A2, c2, by omega, by go_num, rfl, by rw [S.out]; exact HN.out, by rw [S.out]; exact own_below OWN.out (bDrewN (Below.refl _ wr) nd), bDrewN BEL.out nd⟩
        case measure => simp [intOf]; omega
    · have e : k = a.length := by omega
      subst e
      have hn := HN.out
      rw [metK_end] at hn
      subst hn
      go_wp2
      go_ret
      refine ⟨A2, c2, rfl, ?_, BEL.out⟩
      have h := OWN.out
      rw [metK_end] at h
      exact h

set_option maxRecDepth 100000 in
set_option maxHeartbeats 2000000 in
theorem implMeet_any (B : Nat) (A : Option Addr) (c : Nat) (a : List Int) (A1 : Option Addr) (c1 : Nat) (b : List Int) (w : World) (hB : B ≤ w.heap.size) (hl : a.length ≤ 1048576) (hl1 : b.length ≤ 1048576) (hcap : a.length ≤ c) (hcap1 : b.length ≤ c1)
    (hr : Rd w B 1 A a.length (a.map I)) (hr1 : Rd w B 1 A1 b.length (b.map I)) :
    Calls Try.prog 42 #[.slice A a.length c, .slice A1 b.length c1] w fun e w' =>
      ∃ A' c', e = .returned (.tuple #[.slice A' (selL (meG a b) (met a b)).length c', .bool (meG a b)]) ∧ OwI w' w.heap.size (.slice A' (selL (meG a b) (met a b)).length c') (selL (meG a b) (met a b)) ∧ Below w.heap.size w w' := by
  have hS := implIsChain_any B A c a w hB hl hcap hr
  have H := Lib.hid hr
  have H1 := Lib.hid hr1
  clear hr hr1
  cases hg : chG a with
  | false =>
    rw [hg] at hS
    have HS := Lib.hid hS
    have E := Lib.hid (show meG a b = false by unfold meG; rw [hg]; rfl)
    clear hS hg
    go_enter Try.func42, Try.ntmps42
    go_wp2_with (go_at_call 17; refine HS.out.mono ?_; rintro e w2 ⟨rfl, hb2⟩)
    go_ret2
    exact ⟨none, 0, by rw [E.out]; rfl, by rw [E.out]; exact OwI.nil _ _, hb2⟩
  | true =>
    rw [hg] at hS
    have HS := Lib.hid hS
    clear hS
    have hS1 := fun (W : World) (hb : Below w.heap.size w W) => implIsChain_any B A1 c1 b W (by have := hb.size; omega) hl1 hcap1 (H1.out.below' hb hB)
    cases hg1 : chG b with
    | false =>
      rw [hg1] at hS1
      have HS1 := Lib.hid hS1
      have E := Lib.hid (show meG a b = false by unfold meG; rw [hg1]; simp)
      clear hS1 hg hg1
      go_enter Try.func42, Try.ntmps42
      go_wp2_with fail
      go_at_call 17
      refine HS.out.mono ?_
      rintro e w2 ⟨rfl, hb2⟩
      have HB2 := Lib.hid hb2
      have hs2 : w.heap.size ≤ w2.heap.size := hb2.size
      clear hb2
      go_wp2_with (go_at_call 17; refine (HS1.out w2 HB2.out).mono ?_; rintro e w3 ⟨rfl, hb3⟩)
      go_ret2
      exact ⟨none, 0, by rw [E.out]; rfl, by rw [E.out]; exact OwI.nil _ _, HB2.out.trans (hb3.mono hs2)⟩
    | true =>
      rw [hg1] at hS1
      have HS1 := Lib.hid hS1
      have CA := Lib.hid (chG_chn hg)
      have CB := Lib.hid (chG_chn hg1)
      have hla := CA.out.most
      have E := Lib.hid (show meG a b = chG (met a b) by unfold meG; rw [hg, hg1]; rfl)
      have hmm : (met a b).length ≤ 41 := Nat.le_trans (met_le a b) hla
      rw [E.out]
      have hM := fun W hB' r1 r2 => meet_any B A c a A1 c1 b W CA.out CB.out hB' r1 r2
      have hC := fun W A' c' hown => chainOrNone_any w.heap.size A' c' (met a b) W (by omega) hown
      obtain ⟨u, hu⟩ : ∃ u, met a b = u := ⟨_, rfl⟩
      rw [hu] at hM hC hmm ⊢
      obtain ⟨r, hr'⟩ : ∃ r, selL (chG u) u = r := ⟨_, rfl⟩
      obtain ⟨g, hg'⟩ : ∃ g, chG u = g := ⟨_, rfl⟩
      rw [hr', hg'] at hC ⊢
      have HC := Lib.hid hC
      have HM := Lib.hid hM
      clear hC hM hr' hg' E hu hS1 hg hg1
      go_enter Try.func42, Try.ntmps42
      go_wp2_with fail
      go_at_call 17
      refine HS.out.mono ?_
      rintro e w2 ⟨rfl, hb2⟩
      have HB2 := Lib.hid hb2
      have hs2 : w.heap.size ≤ w2.heap.size := hb2.size
      clear hb2
      go_wp2_with (first
        | (go_at_call 17; refine (HS1.out w2 HB2.out).mono ?_; rintro e w3 ⟨rfl, hb3⟩; have HB3 := Lib.hid (HB2.out.trans (hb3.mono hs2)); have hs3 : w.heap.size ≤ w3.heap.size := HB3.out.size; clear hb3)
        | (go_at_call 68; refine (HM.out w3 (by omega) (H.out.below' HB3.out hB) (H1.out.below' HB3.out hB)).mono ?_; rintro e w4 ⟨A4, c4, rfl, hown4, hb4⟩; have OW4 := Lib.hid (hown4.base hs3); have HB4 := Lib.hid (HB3.out.trans (hb4.mono hs3)); have hs4 : w.heap.size ≤ w4.heap.size := HB4.out.size; clear hown4 hb4)
        | (go_at_call 62; refine (HC.out w4 A4 c4 OW4.out).mono ?_; rintro e w6 ⟨A6, c6, rfl, hown6, hb6⟩))
      go_ret2
      exact ⟨A6, c6, rfl, hown6, HB4.out.trans (hb6.mono hs4)⟩

set_option maxRecDepth 100000 in
set_option maxHeartbeats 2000000 in
theorem specMeet_any (B : Nat) (A : Option Addr) (c : Nat) (a : List Int) (A1 : Option Addr) (c1 : Nat) (b : List Int) (w : World) (hB : B ≤ w.heap.size) (hl : a.length ≤ 1048576) (hl1 : b.length ≤ 1048576) (_hcap : a.length ≤ c) (_hcap1 : b.length ≤ c1)
    (hr : Rd w B 1 A a.length (a.map I)) (hr1 : Rd w B 1 A1 b.length (b.map I)) :
    Calls Try.prog 41 #[.slice A a.length c, .slice A1 b.length c1] w fun e w' =>
      ∃ A' c', e = .returned (.tuple #[.slice A' (selL (meG a b) (met a b)).length c', .bool (meG a b)]) ∧ OwI w' w.heap.size (.slice A' (selL (meG a b) (met a b)).length c') (selL (meG a b) (met a b)) ∧ Below w.heap.size w w' := by
  have hS := chGood_any B A c a w hl hB hr
  have H := Lib.hid hr
  have H1 := Lib.hid hr1
  clear hr hr1
  cases hg : chG a with
  | false =>
    rw [hg] at hS
    have HS := Lib.hid hS
    have E := Lib.hid (show meG a b = false by unfold meG; rw [hg]; rfl)
    clear hS hg
    go_enter Try.func41, Try.ntmps41
    go_wp2_with (go_at_call 49; refine HS.out.mono ?_; rintro e w2 ⟨rfl, hb2⟩)
    go_ret2
    exact ⟨none, 0, by rw [E.out]; rfl, by rw [E.out]; exact OwI.nil _ _, hb2⟩
  | true =>
    rw [hg] at hS
    have HS := Lib.hid hS
    clear hS
    have hS1 := fun (W : World) (hb : Below w.heap.size w W) => chGood_any B A1 c1 b W hl1 (by have := hb.size; omega) (H1.out.below' hb hB)
    cases hg1 : chG b with
    | false =>
      rw [hg1] at hS1
      have HS1 := Lib.hid hS1
      have E := Lib.hid (show meG a b = false by unfold meG; rw [hg1]; simp)
      clear hS1 hg hg1
      go_enter Try.func41, Try.ntmps41
      go_wp2_with fail
      go_at_call 49
      refine HS.out.mono ?_
      rintro e w2 ⟨rfl, hb2⟩
      have HB2 := Lib.hid hb2
      have hs2 : w.heap.size ≤ w2.heap.size := hb2.size
      clear hb2
      go_wp2_with (go_at_call 49; refine (HS1.out w2 HB2.out).mono ?_; rintro e w3 ⟨rfl, hb3⟩)
      go_ret2
      exact ⟨none, 0, by rw [E.out]; rfl, by rw [E.out]; exact OwI.nil _ _, HB2.out.trans (hb3.mono hs2)⟩
    | true =>
      rw [hg1] at hS1
      have HS1 := Lib.hid hS1
      have CA := Lib.hid (chG_chn hg)
      have CB := Lib.hid (chG_chn hg1)
      have hla := CA.out.most
      have hlb := CB.out.most
      have hl0 := CA.out.pos
      have E := Lib.hid (show meG a b = chG (met a b) by unfold meG; rw [hg, hg1]; rfl)
      have hmm : (met a b).length ≤ 41 := Nat.le_trans (met_le a b) hla
      rw [E.out]
      have hC := fun W A' c' hown => chIf_any w.heap.size A' c' (met a b) W (by omega) hown
      obtain ⟨r, hr'⟩ : ∃ r, selL (chG (met a b)) (met a b) = r := ⟨_, rfl⟩
      obtain ⟨gd, hg'⟩ : ∃ g, chG (met a b) = g := ⟨_, rfl⟩
      rw [hr', hg'] at hC ⊢
      have HC := Lib.hid hC
      obtain ⟨g, off, rfl, hbB, hc⟩ := H.out.cells (by omega)
      have HCE := Lib.hid hc
      clear hC hr' hg' E hS1 hg hg1 hc
      go_enter Try.func41, Try.ntmps41
      go_wp2_with fail
      go_at_call 49
      refine HS.out.mono ?_
      rintro e w2 ⟨rfl, hb2⟩
      have HB2 := Lib.hid hb2
      have hs2 : w.heap.size ≤ w2.heap.size := hb2.size
      clear hb2
      go_wp2_with (go_at_call 49; refine (HS1.out w2 HB2.out).mono ?_; rintro e w3 ⟨rfl, hb3⟩; have HB3 := Lib.hid (HB2.out.trans (hb3.mono hs2)); have hs3 : w.heap.size ≤ w3.heap.size := HB3.out.size; clear hb3)
      go_loopw [6, 19] (fun ov iv wr => ∃ (k n : Nat) (A2 : Option Addr) (c2 : Nat), k ≤ a.length ∧ iv = .int .i64 k ∧ ov = .slice A2 n c2 ∧ n = (metK a b k).length ∧ wr.ownsRow w.heap.size 3 1 (.slice A2 n c2) n ((metK a b k).map I) ∧ Below w.heap.size w wr) (fun _ i _ => a.length - (intOf i).toNat)
      case atStart => exact ⟨0, 0, none, 0, by omega, rfl, rfl, rfl, World.ownsRow_nil _ _ _ _, HB3.out⟩
      case round =>
        obtain ⟨k, n, A2, c2, hk, rfl, rfl, hn, hown, hbel⟩ := hrel
        have OWN := Lib.hid hown
        have BEL := Lib.hid hbel
        have HN := Lib.hid hn
        have hs : w.heap.size ≤ wr.heap.size := hbel.size
        have hnb : n ≤ 41 := by rw [hn]; exact Nat.le_trans (metK_le a b k) (by omega)
        clear hown hbel hn
        by_cases hlt : k < a.length
        · have ik : (k : Int) < (a.length : Int) := by omega
          have ck := (BEL.out.cell (p := ⟨g, off + k, none⟩) (by simp only []; omega)).trans (HCE.out k hlt)
          have hh := metK_hit (b := b) hlt
          have hm := metK_miss (b := b) hlt
          obtain ⟨x, hx⟩ : ∃ x, a.getD k 0 = x := ⟨_, rfl⟩
          rw [hx] at ck hh hm
          have hH := l1Has_any B A1 c1 b x wr (by omega) (H1.out.below' BEL.out hB)
          clear hx
          cases hq : hasI b x with
          | true =>
            have S := Lib.hid (hh hq)
            rw [hq] at hH
            have HH := Lib.hid hH
            clear hh hm hH hq
            go_wp2_with (first
              | (go_at_call 64; refine HH.out.mono ?_; rintro e w5 ⟨rfl, rfl⟩)
              | (at_builtin; refine list_step (fun K hK => ?_); refine step_app1 Try.underlying22 info_int rfl (by omega) rfl (.tmp 26) (.tmp 28) rfl w.heap.size n _ ((metK a b k).map I) rfl (World.ownsRow.alloc OWN.out _) wr.heap.size 1 (I x) rfl (by rw [World.cell?_alloc_at _ _ _ _ rfl]; rfl) rfl (by omega) (by simp; omega) ?_; intro A5 c5 w6 hown6 hg6 hbel6; go_simp; refine hK _ _ ?_; clear hK K))
            go_roundw
            case rel =>
              refine ⟨k + 1, n + 1, A5, c5, by omega, by go_num, rfl, by rw [S.out, List.length_append, ← HN.out]; rfl, ?_, (BEL.out.alloc (by omega) _).trans hbel6⟩
              rw [S.out, List.map_append]
              exact hown6
            case measure => simp [intOf]; omega
          | false =>
            have S := Lib.hid (hm hq)
            rw [hq] at hH
            have HH := Lib.hid hH
            clear hh hm hH hq
            go_wp2_with (go_at_call 64; refine HH.out.mono ?_; rintro e w5 ⟨rfl, rfl⟩)
            go_roundw
            case rel => exact ⟨k + 1, n, A2, c2, by omega, by go_num, rfl, by rw [S.out]; exact HN.out, by rw [S.out]; exact OWN.out, BEL.out⟩
            case measure => simp [intOf]; omega
        · have e : k = a.length := by omega
          subst e
          have hn := HN.out
          rw [metK_end] at hn
          have HOM := Lib.hid (show OwI wr w.heap.size (.slice A2 (met a b).length c2) (met a b) from (by have h := OWN.out; rw [metK_end, hn] at h; exact h))
          subst hn
          go_wp2_with (go_at_call 60; refine (HC.out wr A2 c2 HOM.out).mono ?_; rintro e w6 ⟨A6, c6, rfl, hown6, hb6⟩)
          go_ret2
          exact ⟨A6, c6, rfl, hown6, BEL.out.trans (hb6.mono hs)⟩
end Go.Proofs.Ytbbjgcagkmlngac
/- A number put into a rising list, by the model. -/
namespace Go.Proofs.Ytbbjgcagkmlngac
open Go.RowKit

theorem Rd.drop {w : World} {B : Nat} {b off k : Nat} {l : List Int} (h : Rd w B 1 (some ⟨b, off, none⟩) l.length (l.map I)) (hk : k < l.length) : Rd w B 1 (some ⟨b, off + k, none⟩) (l.length - k) ((l.drop k).map I) := by
  refine ⟨by simp, fun _ => ?_⟩
  obtain ⟨b', off', e, hb, hc⟩ := h.2 (by omega)
  simp only [Option.some.injEq, Addr.mk.injEq, and_true] at e
  obtain ⟨rfl, rfl⟩ := e
  refine ⟨b, off + k, rfl, hb, fun j hj => ?_⟩
  rw [Nat.add_assoc, hc (k + j) (by omega), List.map_drop, List.getElem?_drop]
theorem put_below2 {B : Nat} {w : World} {o1 o2 : Obj} {w2 w3 : World} (hB : B ≤ w.heap.size) (h2 : Below B (w.alloc o1) w2) (h3 : Below B (w2.alloc o2) w3) : Below B w w3 := by
  have h1 : Below B w w2 := ((Below.refl _ _).alloc hB _).trans h2
  exact (h1.alloc (Nat.le_trans hB h1.size) _).trans h3

set_option maxRecDepth 100000 in
set_option maxHeartbeats 2000000 in
theorem l1PutN_any (B : Nat) (A : Option Addr) (c : Nat) (l : List Int) (x : Int) (w : World) (hm : l.length ≤ 1000) (ha : Asc l) (hx : ¬ x ∈ l) (hcap : l.length ≤ c) (hB : B ≤ w.heap.size) (hr : Rd w B 1 A l.length (l.map I)) :
    Calls Try.prog 65 #[.slice A l.length c, .int .i64 x] w fun e w' => ∃ A' c', e = .returned (.slice A' (putI l x).length c') ∧ OwI w' w.heap.size (.slice A' (putI l x).length c') (putI l x) ∧ Below w.heap.size w w' := by
  have H := Lib.hid hr
  obtain ⟨p1, p2⟩ := cnt_parts ha x
  have P1 := Lib.hid p1
  have P2 := Lib.hid p2
  have hcx := cnt_le l x
  have P := Lib.hid (putI_new hx)
  have hpl : (putI l x).length = l.length + 1 := by rw [P.out, insA_length l x hcx]
  have HPL := Lib.hid hpl
  have HX := Lib.hid hx
  obtain ⟨a, haa⟩ : ∃ a, cnt l x = a := ⟨_, rfl⟩
  rw [haa] at hcx
  have AA := Lib.hid haa
  have HAS := Lib.hid ha
  clear hr p1 p2 hpl hx haa ha
  have hbig : (l.length : Int) ≤ 1000 := by omega
  go_enter Try.func65, Try.ntmps65
  go_wp2
  go_loop [5] (fun i => ∃ k : Nat, k ≤ a ∧ i = .int .i64 k) (fun i => a - (intOf i).toNat)
  case atStart => exact ⟨0, by omega, rfl⟩
  case round =>
    obtain ⟨k, hk, rfl⟩ := hrel
    by_cases hka : k < a
    · obtain ⟨b, off, rfl, hb, hc⟩ := H.out.cells (by omega)
      have ck := hc k (by omega)
      have hlt : l.getD k 0 < x := P1.out k (by rw [AA.out]; exact hka)
      obtain ⟨y, hy⟩ : ∃ y, l.getD k 0 = y := ⟨_, rfl⟩
      rw [hy] at ck hlt
      have ik : (k : Int) < (l.length : Int) := by omega
      clear hc hy
      go_wp2
      go_round
      case rel => exact ⟨k + 1, by omega, by go_num⟩
      case measure => simp [intOf]; omega
    · have e : k = a := by omega
      subst e
      have ikc : (k : Int) ≤ (c : Int) := by omega
      have hins : (insA l k x).map I = (l.take k).map I ++ [I x] ++ (l.drop k).map I := by unfold insA; rw [List.map_append, List.map_cons]; simp
      have HINS := Lib.hid hins
      clear hins
      by_cases hl : k < l.length
      · obtain ⟨b, off, rfl, hb, hc⟩ := H.out.cells (by omega)
        have ck := hc k hl
        have hge := P2.out k (by rw [AA.out]; exact Nat.le_refl _) hl
        obtain ⟨y, hy⟩ : ∃ y, l.getD k 0 = y := ⟨_, rfl⟩
        have hne : ¬ y = x := fun h => HX.out (by rw [← h, ← hy]; exact mem_getD hl)
        rw [hy] at ck hge
        have h1 : ¬ y < x := by omega
        have hyx : (y == x) = false := by simpa using hne
        have ik : (k : Int) < (l.length : Int) := by omega
        have ikl : (k : Int) ≤ (l.length : Int) := by omega
        have hcn : ¬ (c = k) := by omega
        have T1 := Lib.hid (fun (W : World) (hb : Below w.heap.size w W) => (H.out.below' hb hB).take (n := k) (by omega))
        have T2 := Lib.hid (fun (W : World) (hb : Below w.heap.size w W) => (H.out.below' hb hB).drop hl)
        clear hc hy hge hne
        go_wp2_with (first
          | (at_builtin; refine list_step (fun K hK => ?_); refine step_appM Try.underlying22 info_int rfl (by omega) (by omega) rfl (.tmp 34) (.tmp 37) rfl w.heap.size 0 _ [] rfl (own_empty 1 (Nat.le_refl _)) _ k _ ((l.take k).map I) rfl (T1.out _ ((Below.refl _ _).alloc (Nat.le_refl _) _)) (ints_one _) (by omega) (by simp) ?_; intro A2 c2 w2 hown2 hg2 hbel2; simp only [Nat.zero_add, List.nil_append] at hown2; go_simp; refine hK _ _ ?_; clear hK K)
          | (at_builtin; refine list_step (fun K hK => ?_); refine step_app1 Try.underlying22 info_int rfl (by omega) rfl (.tmp 39) (.tmp 41) rfl w.heap.size _ _ _ rfl (World.ownsRow.alloc hown2 _) w2.heap.size 1 (I x) rfl (by simp) rfl (by omega) (by have := hbel2.size; simp at this; simp; omega) ?_; intro A3 c3 w3 hown3 hg3 hbel3; go_simp; refine hK _ _ ?_; clear hK K)
          | (at_builtin; refine list_step (fun K hK => ?_); have hb23 := put_below2 (Nat.le_refl _) hbel2 hbel3; refine step_appM Try.underlying22 info_int rfl (by omega) (by omega) rfl (.tmp 43) (.tmp 46) rfl w.heap.size _ _ _ rfl hown3 _ (l.length - k) _ ((l.drop k).map I) rfl (T2.out _ hb23) (ints_one _) (by omega) hb23.size ?_; intro A4 c4 w4 hown4 hg4 hbel4; go_simp; refine hK _ _ ?_; clear hK K))
        go_ret
        refine ⟨A4, c4, ret_slice (by have := HPL.out; omega), ?_, (put_below2 (Nat.le_refl _) hbel2 hbel3).trans hbel4⟩
        have h := hown4
        rw [show k + 1 + (l.length - k) = (putI l x).length by have := HPL.out; omega] at h
        unfold OwI
        rw [P.out, AA.out, HINS.out] at *
        simpa using h
      · have e : k = l.length := by omega
        have T1 := Lib.hid (fun (W : World) (hb : Below w.heap.size w W) => (H.out.below' hb hB).take (n := k) (by omega))
        have HE := Lib.hid e
        have hfin : ∀ (A4 : Option Addr) (c4 : Nat) (w4 : World), w4.ownsRow w.heap.size 3 1 (.slice A4 (k + 1 + 0) c4) (k + 1 + 0) ((l.take k).map I ++ [I x] ++ []) → OwI w4 w.heap.size (.slice A4 (putI l x).length c4) (putI l x) := fun A4 c4 w4 h => by
          rw [show k + 1 + 0 = (putI l x).length by have := HPL.out; have := HE.out; omega] at h
          unfold OwI
          have hd : l.drop k = [] := List.drop_of_length_le (by have := HE.out; omega)
          have hi := HINS.out
          rw [hd] at hi
          rw [P.out, AA.out, hi] at *
          simpa using h
        have FIN := Lib.hid hfin
        obtain ⟨N, hN⟩ : ∃ N, l.length = N := ⟨_, rfl⟩
        rw [hN] at e
        subst e
        rw [hN] at *
        have HN := Lib.hid hN
        clear hfin hN
        have hsl : ∀ n : Nat, n - n = 0 := fun n => Nat.sub_self n
        by_cases hck : c = k
        · subst hck
          go_wp2_with (first
            | (at_builtin; refine list_step (fun K hK => ?_); refine step_appM Try.underlying22 info_int rfl (by omega) (by omega) rfl (.tmp 34) (.tmp 37) rfl w.heap.size 0 _ [] rfl (own_empty 1 (Nat.le_refl _)) _ c _ ((l.take c).map I) rfl (T1.out _ ((Below.refl _ _).alloc (Nat.le_refl _) _)) (ints_one _) (by omega) (by simp) ?_; intro A2 c2 w2 hown2 hg2 hbel2; simp only [Nat.zero_add, List.nil_append] at hown2; go_simp; refine hK _ _ ?_; clear hK K)
            | (at_builtin; refine list_step (fun K hK => ?_); refine step_app1 Try.underlying22 info_int rfl (by omega) rfl (.tmp 39) (.tmp 41) rfl w.heap.size _ _ _ rfl (World.ownsRow.alloc hown2 _) w2.heap.size 1 (I x) rfl (by simp) rfl (by omega) (by have := hbel2.size; simp at this; simp; omega) ?_; intro A3 c3 w3 hown3 hg3 hbel3; go_simp; refine hK _ _ ?_; clear hK K)
            | (at_builtin; refine list_step (fun K hK => ?_); have hb23 := put_below2 (Nat.le_refl _) hbel2 hbel3; refine step_appM Try.underlying22 info_int rfl (by omega) (by omega) rfl (.tmp 43) (.tmp 46) rfl w.heap.size _ _ _ rfl hown3 _ 0 _ [] rfl (Rd.nil _ 0 _ _) (by simp) (by omega) hb23.size ?_; intro A4 c4 w4 hown4 hg4 hbel4; go_simp; refine hK _ _ ?_; clear hK K))
          all_goals
            go_ret
            exact ⟨A4, c4, ret_slice (by have := HPL.out; have := HE.out; omega), FIN.out A4 c4 w4 hown4, (put_below2 (Nat.le_refl _) hbel2 hbel3).trans hbel4⟩
        · have hck' : ¬ (k = c) := fun h => hck h.symm
          go_wp2_with (first
            | (at_builtin; refine list_step (fun K hK => ?_); refine step_appM Try.underlying22 info_int rfl (by omega) (by omega) rfl (.tmp 34) (.tmp 37) rfl w.heap.size 0 _ [] rfl (own_empty 1 (Nat.le_refl _)) _ k _ ((l.take k).map I) rfl (T1.out _ ((Below.refl _ _).alloc (Nat.le_refl _) _)) (ints_one _) (by omega) (by simp) ?_; intro A2 c2 w2 hown2 hg2 hbel2; simp only [Nat.zero_add, List.nil_append] at hown2; go_simp; refine hK _ _ ?_; clear hK K)
            | (at_builtin; refine list_step (fun K hK => ?_); refine step_app1 Try.underlying22 info_int rfl (by omega) rfl (.tmp 39) (.tmp 41) rfl w.heap.size _ _ _ rfl (World.ownsRow.alloc hown2 _) w2.heap.size 1 (I x) rfl (by simp) rfl (by omega) (by have := hbel2.size; simp at this; simp; omega) ?_; intro A3 c3 w3 hown3 hg3 hbel3; go_simp; refine hK _ _ ?_; clear hK K)
            | (at_builtin; refine list_step (fun K hK => ?_); have hb23 := put_below2 (Nat.le_refl _) hbel2 hbel3; refine step_appM Try.underlying22 info_int rfl (by omega) (by omega) rfl (.tmp 43) (.tmp 46) rfl w.heap.size _ _ _ rfl hown3 _ 0 _ [] rfl (Rd.nil _ 0 _ _) (by simp) (by omega) hb23.size ?_; intro A4 c4 w4 hown4 hg4 hbel4; go_simp; refine hK _ _ ?_; clear hK K))
          all_goals
            go_ret
            exact ⟨A4, c4, ret_slice (by have := HPL.out; have := HE.out; omega), FIN.out A4 c4 w4 hown4, (put_below2 (Nat.le_refl _) hbel2 hbel3).trans hbel4⟩
end Go.Proofs.Ytbbjgcagkmlngac
/- A number put into a chain. -/
namespace Go.Proofs.Ytbbjgcagkmlngac
open Go.RowKit

theorem mem_putI (l : List Int) (x : Int) : x ∈ putI l x := by
  unfold putI
  split
  · assumption
  · unfold insA
    exact List.mem_append_right _ List.mem_cons_self
theorem chG_mem {r : List Int} {x : Int} (h : chG r = true) (hx : x ∈ r) : isNum x = true := by
  obtain ⟨i, hi, rfl⟩ := List.mem_iff_getElem.1 hx
  have h1 := (chG_chn h).rng i hi
  have e : r.getD i 0 = r[i] := by simp [hi]
  rw [e] at h1
  unfold isNum inB
  simpa using h1
def inG (l : List Int) (x : Int) : Bool := (chG l && !hasI l x) && chG (putI l x)
theorem hasI_not {l : List Int} {x : Int} (h : hasI l x = false) : ¬ x ∈ l := by rw [hasI_mem] at h; simpa using h

set_option maxRecDepth 100000 in
set_option maxHeartbeats 2000000 in
theorem specInsert_any (B : Nat) (A : Option Addr) (c : Nat) (l : List Int) (x : Int) (w : World) (hB : B ≤ w.heap.size) (hl : l.length ≤ 1048576) (hcap : l.length ≤ c) (hr : Rd w B 1 A l.length (l.map I)) :
    Calls Try.prog 39 #[.slice A l.length c, .int .i64 x] w fun e w' =>
      ∃ A' c', e = .returned (.tuple #[.slice A' (selL (inG l x) (putI l x)).length c', .bool (inG l x)]) ∧ OwI w' w.heap.size (.slice A' (selL (inG l x) (putI l x)).length c') (selL (inG l x) (putI l x)) ∧ Below w.heap.size w w' := by
  have hS := chGood_any B A c l w hl hB hr
  have H := Lib.hid hr
  clear hr
  cases hg : chG l with
  | false =>
    rw [hg] at hS
    have HS := Lib.hid hS
    have E := Lib.hid (show inG l x = false by unfold inG; rw [hg]; rfl)
    clear hS hg
    go_enter Try.func39, Try.ntmps39
    go_wp2_with (go_at_call 49; refine HS.out.mono ?_; rintro e w2 ⟨rfl, hb2⟩)
    go_ret2
    exact ⟨none, 0, by rw [E.out]; rfl, by rw [E.out]; exact OwI.nil _ _, hb2⟩
  | true =>
    rw [hg] at hS
    have CH := chG_chn hg
    have hl2 := CH.most
    have HA := Lib.hid CH.asc
    have HS := Lib.hid hS
    have hN := fun W => chNumber_any x W
    clear hS CH
    cases hn : isNum x with
    | false =>
      have F := Lib.hid (show inG l x = false by
        unfold inG
        cases hq : chG (putI l x) with
        | false => simp
        | true => rw [chG_mem hq (mem_putI l x)] at hn; cases hn)
      rw [hn] at hN
      have HN := Lib.hid hN
      clear hN hn hg
      go_enter Try.func39, Try.ntmps39
      go_wp2_with (first
        | (go_at_call 49; refine HS.out.mono ?_; rintro e w2 ⟨rfl, hb2⟩)
        | (go_at_call 59; refine (HN.out _).mono ?_; rintro e w3 ⟨rfl, rfl⟩))
      go_ret2
      exact ⟨none, 0, by rw [F.out]; rfl, by rw [F.out]; exact OwI.nil _ _, hb2⟩
    | true =>
      rw [hn] at hN
      have HN := Lib.hid hN
      clear hN hn
      have hH := fun (W : World) (hb : Below w.heap.size w W) => l1Has_any B A c l x W (by omega) (H.out.below' hb hB)
      cases hh : hasI l x with
      | true =>
        have F := Lib.hid (show inG l x = false by unfold inG; rw [hh]; simp)
        rw [hh] at hH
        have HH := Lib.hid hH
        clear hH hh hg
        go_enter Try.func39, Try.ntmps39
        go_wp2_with (first
          | (go_at_call 49; refine HS.out.mono ?_; rintro e w2 ⟨rfl, hb2⟩; have HB2 := Lib.hid hb2; clear hb2)
          | (go_at_call 59; refine (HN.out _).mono ?_; rintro e w3 ⟨rfl, rfl⟩)
          | (go_at_call 64; refine (HH.out w2 HB2.out).mono ?_; rintro e w4 ⟨rfl, rfl⟩))
        go_ret2
        exact ⟨none, 0, by rw [F.out]; rfl, by rw [F.out]; exact OwI.nil _ _, HB2.out⟩
      | false =>
        rw [hh] at hH
        have HH := Lib.hid hH
        have E := Lib.hid (show inG l x = chG (putI l x) by unfold inG; rw [hg, hh]; rfl)
        have NX := Lib.hid (hasI_not hh)
        clear hH hh hg
        rw [E.out]
        have hpl : (putI l x).length ≤ 1048576 := Nat.le_trans (putI_le l x) (by omega)
        have hP := fun (W : World) (hb : Below w.heap.size w W) => l1PutN_any B A c l x W (by omega) HA.out NX.out hcap (by have := hb.size; omega) (H.out.below' hb hB)
        obtain ⟨u, hu⟩ : ∃ u, putI l x = u := ⟨_, rfl⟩
        rw [hu] at hP hpl ⊢
        have hC := fun W A' c' hown => chIf_any w.heap.size A' c' u W hpl hown
        obtain ⟨r, hr'⟩ : ∃ r, selL (chG u) u = r := ⟨_, rfl⟩
        obtain ⟨g, hg'⟩ : ∃ g, chG u = g := ⟨_, rfl⟩
        rw [hr', hg'] at hC ⊢
        have HC := Lib.hid hC
        have HP := Lib.hid hP
        clear hC hP hr' hg' hu E
        go_enter Try.func39, Try.ntmps39
        go_wp2_with (first
          | (go_at_call 49; refine HS.out.mono ?_; rintro e w2 ⟨rfl, hb2⟩; have HB2 := Lib.hid hb2; have hs2 : w.heap.size ≤ w2.heap.size := hb2.size; clear hb2)
          | (go_at_call 59; refine (HN.out _).mono ?_; rintro e w3 ⟨rfl, rfl⟩)
          | (go_at_call 64; refine (HH.out w2 HB2.out).mono ?_; rintro e w4 ⟨rfl, rfl⟩)
          | (go_at_call 65; refine (HP.out w2 HB2.out).mono ?_; rintro e w5 ⟨A5, c5, rfl, hown5, hb5⟩; have OW5 := Lib.hid (hown5.base hs2); have HB5 := Lib.hid (HB2.out.trans (hb5.mono hs2)); have hs5 : w.heap.size ≤ w5.heap.size := HB5.out.size; clear hown5 hb5)
          | (go_at_call 60; refine (HC.out w5 A5 c5 OW5.out).mono ?_; rintro e w6 ⟨A6, c6, rfl, hown6, hb6⟩))
        go_ret2
        exact ⟨A6, c6, rfl, hown6, HB5.out.trans (hb6.mono hs5)⟩

set_option maxRecDepth 100000 in
set_option maxHeartbeats 2000000 in
theorem implInsert_any (B : Nat) (A : Option Addr) (c : Nat) (l : List Int) (x : Int) (w : World) (hB : B ≤ w.heap.size) (hl : l.length ≤ 1048576) (hcap : l.length ≤ c) (hr : Rd w B 1 A l.length (l.map I)) :
    Calls Try.prog 40 #[.slice A l.length c, .int .i64 x] w fun e w' =>
      ∃ A' c', e = .returned (.tuple #[.slice A' (selL (inG l x) (putI l x)).length c', .bool (inG l x)]) ∧ OwI w' w.heap.size (.slice A' (selL (inG l x) (putI l x)).length c') (selL (inG l x) (putI l x)) ∧ Below w.heap.size w w' := by
  have hS := implIsChain_any B A c l w hB hl hcap hr
  have H := Lib.hid hr
  clear hr
  cases hg : chG l with
  | false =>
    rw [hg] at hS
    have HS := Lib.hid hS
    have E := Lib.hid (show inG l x = false by unfold inG; rw [hg]; rfl)
    clear hS hg
    go_enter Try.func40, Try.ntmps40
    go_wp2_with (go_at_call 17; refine HS.out.mono ?_; rintro e w2 ⟨rfl, hb2⟩)
    go_ret2
    exact ⟨none, 0, by rw [E.out]; rfl, by rw [E.out]; exact OwI.nil _ _, hb2⟩
  | true =>
    rw [hg] at hS
    have CH := chG_chn hg
    have hl1 := CH.pos
    have hl2 := CH.most
    have HA := Lib.hid CH.asc
    have HS := Lib.hid hS
    clear hS CH
    have hH := fun (W : World) (hb : Below w.heap.size w W) => hasA_any B A c l x W (by omega) HA.out (H.out.below' hb hB)
    cases hh : hasI l x with
    | true =>
      have F := Lib.hid (show inG l x = false by unfold inG; rw [hh]; simp)
      rw [hh] at hH
      have HH := Lib.hid hH
      clear hH hh hg
      go_enter Try.func40, Try.ntmps40
      go_wp2_with (first
        | (go_at_call 17; refine HS.out.mono ?_; rintro e w2 ⟨rfl, hb2⟩; have HB2 := Lib.hid hb2; clear hb2)
        | (go_at_call 66; refine (HH.out w2 HB2.out).mono ?_; rintro e w4 ⟨rfl, ⟨nd, rfl⟩⟩))
      go_ret2
      exact ⟨none, 0, by rw [F.out]; rfl, by rw [F.out]; exact OwI.nil _ _, bDrewN HB2.out nd⟩
    | false =>
      rw [hh] at hH
      have HH := Lib.hid hH
      have E := Lib.hid (show inG l x = chG (putI l x) by unfold inG; rw [hg, hh]; rfl)
      clear hH hh hg
      rw [E.out]
      have hpl : (putI l x).length ≤ 1048576 := Nat.le_trans (putI_le l x) (by omega)
      have hP := fun (W : World) (hb : Below w.heap.size w W) => with_any B A c l x W (by omega) HA.out (fun h => by rw [h] at hl1; simp at hl1) (by have := hb.size; omega) (H.out.below' hb hB)
      obtain ⟨u, hu⟩ : ∃ u, putI l x = u := ⟨_, rfl⟩
      rw [hu] at hP hpl ⊢
      have hC := fun W A' c' hown => chainOrNone_any w.heap.size A' c' u W hpl hown
      obtain ⟨r, hr'⟩ : ∃ r, selL (chG u) u = r := ⟨_, rfl⟩
      obtain ⟨g, hg'⟩ : ∃ g, chG u = g := ⟨_, rfl⟩
      rw [hr', hg'] at hC ⊢
      have HC := Lib.hid hC
      have HP := Lib.hid hP
      clear hC hP hr' hg' hu E
      go_enter Try.func40, Try.ntmps40
      go_wp2_with (first
        | (go_at_call 17; refine HS.out.mono ?_; rintro e w2 ⟨rfl, hb2⟩; have HB2 := Lib.hid hb2; have hs2 : w.heap.size ≤ w2.heap.size := hb2.size; clear hb2)
        | (go_at_call 66; refine (HH.out w2 HB2.out).mono ?_; rintro e w4 ⟨rfl, ⟨nd, rfl⟩⟩)
        | (go_at_call 67; refine (HP.out (w2.drewN nd) (bDrewN HB2.out nd)).mono ?_; rintro e w5 ⟨A5, c5, rfl, hown5, hb5⟩; have OW5 := Lib.hid (hown5.base hs2); have HB5 := Lib.hid ((bDrewN HB2.out nd).trans (hb5.mono hs2)); have hs5 : w.heap.size ≤ w5.heap.size := HB5.out.size; clear hown5 hb5)
        | (go_at_call 62; refine (HC.out w5 A5 c5 OW5.out).mono ?_; rintro e w6 ⟨A6, c6, rfl, hown6, hb6⟩))
      go_ret2
      exact ⟨A6, c6, rfl, hown6, HB5.out.trans (hb6.mono hs5)⟩
end Go.Proofs.Ytbbjgcagkmlngac
/- What is in one of two chains. -/
namespace Go.Proofs.Ytbbjgcagkmlngac
open Go.RowKit

theorem mem_at_cnt {l : List Int} (ha : Asc l) {x : Int} (hx : x ∈ l) : cnt l x < l.length ∧ l.getD (cnt l x) 0 = x := by
  obtain ⟨h1, h2⟩ := cnt_parts ha x
  have h := mem_at ha (cnt_le l x) h1 h2
  rw [decide_eq_true hx] at h
  exact of_decide_eq_true h.symm

set_option maxRecDepth 100000 in
set_option maxHeartbeats 1000000 in
/-- Of a number that is there the list itself is answered. -/
theorem l1PutH_any (B : Nat) (A : Option Addr) (c : Nat) (l : List Int) (x : Int) (w : World) (hm : l.length ≤ 1000) (ha : Asc l) (hx : x ∈ l) (hr : Rd w B 1 A l.length (l.map I)) :
    Calls Try.prog 65 #[.slice A l.length c, .int .i64 x] w fun e w' => e = .returned (.slice A l.length c) ∧ w = w' := by
  obtain ⟨q1, q2⟩ := mem_at_cnt ha hx
  obtain ⟨p1, _⟩ := cnt_parts ha x
  obtain ⟨b, off, rfl, hb, hc⟩ := hr.cells (by omega)
  have HC := Lib.hid hc
  have P1 := Lib.hid p1
  obtain ⟨a, haa⟩ : ∃ a, cnt l x = a := ⟨_, rfl⟩
  rw [haa] at q1 q2
  have AA := Lib.hid haa
  have Q2 := Lib.hid q2
  clear hr hc ha hx p1 haa q2
  go_enter Try.func65, Try.ntmps65
  go_wp2
  go_loop [5] (fun i => ∃ k : Nat, k ≤ a ∧ i = .int .i64 k) (fun i => a - (intOf i).toNat)
  case atStart => exact ⟨0, by omega, rfl⟩
  case round =>
    obtain ⟨k, hk, rfl⟩ := hrel
    have ck := HC.out k (by omega)
    have ik : (k : Int) < (l.length : Int) := by omega
    by_cases hka : k < a
    · have hlt : l.getD k 0 < x := P1.out k (by rw [AA.out]; exact hka)
      obtain ⟨y, hy⟩ : ∃ y, l.getD k 0 = y := ⟨_, rfl⟩
      rw [hy] at ck hlt
      clear hy
      go_wp2
      go_round
      case rel => exact ⟨k + 1, by omega, by go_num⟩
      case measure => simp [intOf]; omega
    · have e : k = a := by omega
      subst e
      rw [Q2.out] at ck
      go_wp2
      go_ret
      exact ⟨rfl, rfl⟩

set_option maxHeartbeats 1000000 in
theorem l1PutO_any (B0 : Nat) (A : Option Addr) (c : Nat) (l : List Int) (x : Int) (w : World) (hm : l.length ≤ 1000) (ha : Asc l) (hB : B0 ≤ w.heap.size) (hown : OwI w B0 (.slice A l.length c) l) :
    Calls Try.prog 65 #[.slice A l.length c, .int .i64 x] w fun e w' => ∃ A' c', e = .returned (.slice A' (putI l x).length c') ∧ OwI w' B0 (.slice A' (putI l x).length c') (putI l x) ∧ Below w.heap.size w w' := by
  by_cases hx : x ∈ l
  · refine (l1PutH_any w.heap.size A c l x w hm ha hx hown.rd).mono ?_
    rintro e w' ⟨rfl, rfl⟩
    rw [putI_has hx]
    exact ⟨A, c, rfl, hown, Below.refl _ _⟩
  · refine (l1PutN_any w.heap.size A c l x w hm ha hx hown.cap (Nat.le_refl _) hown.rd).mono ?_
    rintro e w' ⟨A', c', rfl, h1, h2⟩
    exact ⟨A', c', rfl, h1.base hB, h2⟩

def uniK (a b : List Int) (k : Nat) : List Int := (b.take k).foldl putI a
def uni (a b : List Int) : List Int := b.foldl putI a
theorem uniK_end (a b : List Int) : uniK a b b.length = uni a b := by unfold uniK uni; rw [List.take_length]
theorem uniK_zero (a b : List Int) : uniK a b 0 = a := rfl
theorem uniK_succ {a b : List Int} {k : Nat} (hk : k < b.length) : uniK a b (k + 1) = putI (uniK a b k) (b.getD k 0) := by
  unfold uniK
  rw [take_succ_getD hk, List.foldl_append]
  rfl
theorem uniK_ok {a b : List Int} (ha : Asc a) (h0 : 1 ≤ a.length) : ∀ k, k ≤ b.length → Asc (uniK a b k) ∧ 1 ≤ (uniK a b k).length ∧ (uniK a b k).length ≤ a.length + k := by
  intro k
  induction k with
  | zero => intro _; rw [uniK_zero]; exact ⟨ha, h0, by omega⟩
  | succ k ih =>
    intro hk
    obtain ⟨h1, h2, h3⟩ := ih (by omega)
    rw [uniK_succ (by omega)]
    refine ⟨putI_asc h1 _, ?_, ?_⟩
    · have := List.length_pos_of_mem (mem_putI (uniK a b k) (b.getD k 0))
      omega
    · have := putI_le (uniK a b k) (b.getD k 0)
      omega
def unG (a b : List Int) : Bool := (chG a && chG b) && chG (uni a b)

set_option maxRecDepth 100000 in
set_option maxHeartbeats 2000000 in
theorem union_any (B : Nat) (A : Option Addr) (c : Nat) (a : List Int) (A1 : Option Addr) (c1 : Nat) (b : List Int) (w : World) (ha : Chn a) (hb : Chn b) (hB : B ≤ w.heap.size) (hr : Rd w B 1 A a.length (a.map I)) (hr1 : Rd w B 1 A1 b.length (b.map I)) :
    Calls Try.prog 69 #[.slice A a.length c, .slice A1 b.length c1] w fun e w' =>
      ∃ A' c', e = .returned (.slice A' (uni a b).length c') ∧ OwI w' w.heap.size (.slice A' (uni a b).length c') (uni a b) ∧ Below w.heap.size w w' := by
  have h0 := ha.pos
  have hla := ha.most
  have hlb := hb.most
  have hb0 := hb.pos
  obtain ⟨g, off, rfl, hbB, hc⟩ := hr1.cells (by omega)
  have HC := Lib.hid hc
  have HOK := Lib.hid (uniK_ok (b := b) ha.asc ha.pos)
  have HCL := Lib.hid (cloneA_any B A c a w (by omega) (by omega) hB hr)
  clear hr hr1 hc ha hb
  go_enter Try.func69, Try.ntmps69
  go_wp2_with (go_at_call 81; refine HCL.out.mono ?_; rintro e w2 ⟨A2, c2, rfl, hown2, hb2⟩)
  have OW2 := Lib.hid hown2
  have HB2 := Lib.hid hb2
  clear hown2 hb2
  go_loopw [5, 12] (fun ov iv wr => ∃ (k n : Nat) (A3 : Option Addr) (c3 : Nat), k ≤ b.length ∧ iv = .int .i64 k ∧ ov = .slice A3 n c3 ∧ n = (uniK a b k).length ∧ wr.ownsRow w.heap.size 3 1 (.slice A3 n c3) n ((uniK a b k).map I) ∧ Below w.heap.size w wr) (fun _ i _ => b.length - (intOf i).toNat)
  case atStart => exact ⟨0, a.length, A2, c2, by omega, rfl, rfl, rfl, OW2.out, HB2.out⟩
  case round =>
    obtain ⟨k, n, A3, c3, hk, rfl, rfl, hn, hown, hbel⟩ := hrel
    have OWN := Lib.hid hown
    have BEL := Lib.hid hbel
    have HN := Lib.hid hn
    have hs : w.heap.size ≤ wr.heap.size := hbel.size
    clear hown hbel
    by_cases hlt : k < b.length
    · have ik : (k : Int) < (b.length : Int) := by omega
      have ck := (BEL.out.cell (p := ⟨g, off + k, none⟩) (by simp only []; omega)).trans (HC.out k hlt)
      have SUC := Lib.hid (uniK_succ (a := a) hlt)
      obtain ⟨ok1, ok2, ok3⟩ := HOK.out k (by omega)
      obtain ⟨x, hx⟩ : ∃ x, b.getD k 0 = x := ⟨_, rfl⟩
      rw [hx] at ck SUC
      have hW := with_any wr.heap.size A3 c3 (uniK a b k) x wr (by omega) ok1 (fun h => by rw [h] at ok2; simp at ok2) (Nat.le_refl _) (by
        have h := OWN.out
        rw [HN.out] at h
        exact Rd.of_own h)
      rw [← hn] at hW
      have HW := Lib.hid hW
      have HS := Lib.hid hs
      clear hW hx ok1 ok2 ok3 hn
      go_wp2_with (go_at_call 67; refine HW.out.mono ?_; rintro e w5 ⟨A5, c5, rfl, hown5, hb5⟩)
      go_roundw
      case rel =>
        refine ⟨k + 1, (putI (uniK a b k) x).length, A5, c5, by omega, by go_num, rfl, by rw [SUC.out], ?_, BEL.out.trans (hb5.mono HS.out)⟩
        rw [SUC.out]
        exact hown5.base HS.out
      case measure => simp [intOf]; omega
    · have e : k = b.length := by omega
      subst e
      rw [uniK_end] at hn
      subst hn
      go_wp2
      go_ret
      refine ⟨A3, c3, rfl, ?_, BEL.out⟩
      have h := OWN.out
      rw [uniK_end] at h
      exact h

set_option maxRecDepth 100000 in
set_option maxHeartbeats 2000000 in
theorem implUnion_any (B : Nat) (A : Option Addr) (c : Nat) (a : List Int) (A1 : Option Addr) (c1 : Nat) (b : List Int) (w : World) (hB : B ≤ w.heap.size) (hl : a.length ≤ 1048576) (hl1 : b.length ≤ 1048576) (hcap : a.length ≤ c) (hcap1 : b.length ≤ c1)
    (hr : Rd w B 1 A a.length (a.map I)) (hr1 : Rd w B 1 A1 b.length (b.map I)) :
    Calls Try.prog 44 #[.slice A a.length c, .slice A1 b.length c1] w fun e w' =>
      ∃ A' c', e = .returned (.tuple #[.slice A' (selL (unG a b) (uni a b)).length c', .bool (unG a b)]) ∧ OwI w' w.heap.size (.slice A' (selL (unG a b) (uni a b)).length c') (selL (unG a b) (uni a b)) ∧ Below w.heap.size w w' := by
  have hS := implIsChain_any B A c a w hB hl hcap hr
  have H := Lib.hid hr
  have H1 := Lib.hid hr1
  clear hr hr1
  cases hg : chG a with
  | false =>
    rw [hg] at hS
    have HS := Lib.hid hS
    have E := Lib.hid (show unG a b = false by unfold unG; rw [hg]; rfl)
    clear hS hg
    go_enter Try.func44, Try.ntmps44
    go_wp2_with (go_at_call 17; refine HS.out.mono ?_; rintro e w2 ⟨rfl, hb2⟩)
    go_ret2
    exact ⟨none, 0, by rw [E.out]; rfl, by rw [E.out]; exact OwI.nil _ _, hb2⟩
  | true =>
    rw [hg] at hS
    have HS := Lib.hid hS
    clear hS
    have hS1 := fun (W : World) (hb : Below w.heap.size w W) => implIsChain_any B A1 c1 b W (by have := hb.size; omega) hl1 hcap1 (H1.out.below' hb hB)
    cases hg1 : chG b with
    | false =>
      rw [hg1] at hS1
      have HS1 := Lib.hid hS1
      have E := Lib.hid (show unG a b = false by unfold unG; rw [hg1]; simp)
      clear hS1 hg hg1
      go_enter Try.func44, Try.ntmps44
      go_wp2_with fail
      go_at_call 17
      refine HS.out.mono ?_
      rintro e w2 ⟨rfl, hb2⟩
      have HB2 := Lib.hid hb2
      have hs2 : w.heap.size ≤ w2.heap.size := hb2.size
      clear hb2
      go_wp2_with (go_at_call 17; refine (HS1.out w2 HB2.out).mono ?_; rintro e w3 ⟨rfl, hb3⟩)
      go_ret2
      exact ⟨none, 0, by rw [E.out]; rfl, by rw [E.out]; exact OwI.nil _ _, HB2.out.trans (hb3.mono hs2)⟩
    | true =>
      rw [hg1] at hS1
      have HS1 := Lib.hid hS1
      have CA := Lib.hid (chG_chn hg)
      have CB := Lib.hid (chG_chn hg1)
      have hla := CA.out.most
      have hlb := CB.out.most
      have E := Lib.hid (show unG a b = chG (uni a b) by unfold unG; rw [hg, hg1]; rfl)
      have hmm : (uni a b).length ≤ 82 := by
        have h := (uniK_ok (b := b) CA.out.asc CA.out.pos b.length (Nat.le_refl _)).2.2
        rw [uniK_end] at h
        omega
      rw [E.out]
      have hM := fun W hB' r1 r2 => union_any B A c a A1 c1 b W CA.out CB.out hB' r1 r2
      have hC := fun W A' c' hown => chainOrNone_any w.heap.size A' c' (uni a b) W (by omega) hown
      obtain ⟨u, hu⟩ : ∃ u, uni a b = u := ⟨_, rfl⟩
      rw [hu] at hM hC hmm ⊢
      obtain ⟨r, hr'⟩ : ∃ r, selL (chG u) u = r := ⟨_, rfl⟩
      obtain ⟨g, hg'⟩ : ∃ g, chG u = g := ⟨_, rfl⟩
      rw [hr', hg'] at hC ⊢
      have HC := Lib.hid hC
      have HM := Lib.hid hM
      clear hC hM hr' hg' E hu hS1 hg hg1
      go_enter Try.func44, Try.ntmps44
      go_wp2_with fail
      go_at_call 17
      refine HS.out.mono ?_
      rintro e w2 ⟨rfl, hb2⟩
      have HB2 := Lib.hid hb2
      have hs2 : w.heap.size ≤ w2.heap.size := hb2.size
      clear hb2
      go_wp2_with (first
        | (go_at_call 17; refine (HS1.out w2 HB2.out).mono ?_; rintro e w3 ⟨rfl, hb3⟩; have HB3 := Lib.hid (HB2.out.trans (hb3.mono hs2)); have hs3 : w.heap.size ≤ w3.heap.size := HB3.out.size; clear hb3)
        | (go_at_call 69; refine (HM.out w3 (by omega) (H.out.below' HB3.out hB) (H1.out.below' HB3.out hB)).mono ?_; rintro e w4 ⟨A4, c4, rfl, hown4, hb4⟩; have OW4 := Lib.hid (hown4.base hs3); have HB4 := Lib.hid (HB3.out.trans (hb4.mono hs3)); have hs4 : w.heap.size ≤ w4.heap.size := HB4.out.size; clear hown4 hb4)
        | (go_at_call 62; refine (HC.out w4 A4 c4 OW4.out).mono ?_; rintro e w6 ⟨A6, c6, rfl, hown6, hb6⟩))
      go_ret2
      exact ⟨A6, c6, rfl, hown6, HB4.out.trans (hb6.mono hs4)⟩

set_option maxRecDepth 100000 in
set_option maxHeartbeats 2000000 in
theorem specUnion_any (B : Nat) (A : Option Addr) (c : Nat) (a : List Int) (A1 : Option Addr) (c1 : Nat) (b : List Int) (w : World) (hB : B ≤ w.heap.size) (hl : a.length ≤ 1048576) (hl1 : b.length ≤ 1048576) (_hcap : a.length ≤ c) (_hcap1 : b.length ≤ c1)
    (hr : Rd w B 1 A a.length (a.map I)) (hr1 : Rd w B 1 A1 b.length (b.map I)) :
    Calls Try.prog 43 #[.slice A a.length c, .slice A1 b.length c1] w fun e w' =>
      ∃ A' c', e = .returned (.tuple #[.slice A' (selL (unG a b) (uni a b)).length c', .bool (unG a b)]) ∧ OwI w' w.heap.size (.slice A' (selL (unG a b) (uni a b)).length c') (selL (unG a b) (uni a b)) ∧ Below w.heap.size w w' := by
  have hS := chGood_any B A c a w hl hB hr
  have H := Lib.hid hr
  have H1 := Lib.hid hr1
  clear hr hr1
  cases hg : chG a with
  | false =>
    rw [hg] at hS
    have HS := Lib.hid hS
    have E := Lib.hid (show unG a b = false by unfold unG; rw [hg]; rfl)
    clear hS hg
    go_enter Try.func43, Try.ntmps43
    go_wp2_with (go_at_call 49; refine HS.out.mono ?_; rintro e w2 ⟨rfl, hb2⟩)
    go_ret2
    exact ⟨none, 0, by rw [E.out]; rfl, by rw [E.out]; exact OwI.nil _ _, hb2⟩
  | true =>
    rw [hg] at hS
    have HS := Lib.hid hS
    clear hS
    have hS1 := fun (W : World) (hb : Below w.heap.size w W) => chGood_any B A1 c1 b W hl1 (by have := hb.size; omega) (H1.out.below' hb hB)
    cases hg1 : chG b with
    | false =>
      rw [hg1] at hS1
      have HS1 := Lib.hid hS1
      have E := Lib.hid (show unG a b = false by unfold unG; rw [hg1]; simp)
      clear hS1 hg hg1
      go_enter Try.func43, Try.ntmps43
      go_wp2_with fail
      go_at_call 49
      refine HS.out.mono ?_
      rintro e w2 ⟨rfl, hb2⟩
      have HB2 := Lib.hid hb2
      have hs2 : w.heap.size ≤ w2.heap.size := hb2.size
      clear hb2
      go_wp2_with (go_at_call 49; refine (HS1.out w2 HB2.out).mono ?_; rintro e w3 ⟨rfl, hb3⟩)
      go_ret2
      exact ⟨none, 0, by rw [E.out]; rfl, by rw [E.out]; exact OwI.nil _ _, HB2.out.trans (hb3.mono hs2)⟩
    | true =>
      rw [hg1] at hS1
      have HS1 := Lib.hid hS1
      have CA := Lib.hid (chG_chn hg)
      have CB := Lib.hid (chG_chn hg1)
      have hla := CA.out.most
      have hlb := CB.out.most
      have hb0 := CB.out.pos
      have HOK := Lib.hid (uniK_ok (b := b) CA.out.asc CA.out.pos)
      have E := Lib.hid (show unG a b = chG (uni a b) by unfold unG; rw [hg, hg1]; rfl)
      have hmm : (uni a b).length ≤ 82 := by
        have h := (HOK.out b.length (Nat.le_refl _)).2.2
        rw [uniK_end] at h
        omega
      rw [E.out]
      have hC := fun W A' c' hown => chIf_any w.heap.size A' c' (uni a b) W (by omega) hown
      obtain ⟨r, hr'⟩ : ∃ r, selL (chG (uni a b)) (uni a b) = r := ⟨_, rfl⟩
      obtain ⟨gd, hg'⟩ : ∃ g, chG (uni a b) = g := ⟨_, rfl⟩
      rw [hr', hg'] at hC ⊢
      have HC := Lib.hid hC
      obtain ⟨g, off, rfl, hbB, hc⟩ := H1.out.cells (by omega)
      have HCE := Lib.hid hc
      clear hC hr' hg' E hS1 hg hg1 hc
      go_enter Try.func43, Try.ntmps43
      go_wp2_with fail
      go_at_call 49
      refine HS.out.mono ?_
      rintro e w2 ⟨rfl, hb2⟩
      have HB2 := Lib.hid hb2
      have hs2 : w.heap.size ≤ w2.heap.size := hb2.size
      clear hb2
      go_wp2_with (first
        | (go_at_call 49; refine (HS1.out w2 HB2.out).mono ?_; rintro e w3 ⟨rfl, hb3⟩; have HB3 := Lib.hid (HB2.out.trans (hb3.mono hs2)); have hs3 : w.heap.size ≤ w3.heap.size := HB3.out.size; clear hb3)
        | (go_at_call 61; refine (l1Own_any B A c a w3 (by omega) (by omega) (H.out.below' HB3.out hB)).mono ?_; rintro e w4 ⟨A4, c4, rfl, hown4, hb4⟩; have OW4 := Lib.hid (show w4.ownsRow w.heap.size 3 1 (.slice A4 a.length c4) a.length (a.map I) from own_base hown4 hs3); have HB4 := Lib.hid (HB3.out.trans (hb4.mono hs3)); clear hown4 hb4))
      go_loopw [6, 21] (fun ov iv wr => ∃ (k n : Nat) (A3 : Option Addr) (c3 : Nat), k ≤ b.length ∧ iv = .int .i64 k ∧ ov = .slice A3 n c3 ∧ n = (uniK a b k).length ∧ wr.ownsRow w.heap.size 3 1 (.slice A3 n c3) n ((uniK a b k).map I) ∧ Below w.heap.size w wr) (fun _ i _ => b.length - (intOf i).toNat)
      case atStart => exact ⟨0, a.length, A4, c4, by omega, rfl, rfl, rfl, OW4.out, HB4.out⟩
      case round =>
        obtain ⟨k, n, A3, c3, hk, rfl, rfl, hn, hown, hbel⟩ := hrel
        have OWN := Lib.hid hown
        have BEL := Lib.hid hbel
        have HN := Lib.hid hn
        have hs : w.heap.size ≤ wr.heap.size := hbel.size
        clear hown hbel
        by_cases hlt : k < b.length
        · have ik : (k : Int) < (b.length : Int) := by omega
          have ck := (BEL.out.cell (p := ⟨g, off + k, none⟩) (by simp only []; omega)).trans (HCE.out k hlt)
          have SUC := Lib.hid (uniK_succ (a := a) hlt)
          obtain ⟨ok1, ok2, ok3⟩ := HOK.out k (by omega)
          obtain ⟨x, hx⟩ : ∃ x, b.getD k 0 = x := ⟨_, rfl⟩
          rw [hx] at ck SUC
          have hW := l1PutO_any w.heap.size A3 c3 (uniK a b k) x wr (by omega) ok1 hs (by
            have h := OWN.out
            rw [HN.out] at h
            exact h)
          rw [← hn] at hW
          have HW := Lib.hid hW
          have HS := Lib.hid hs
          clear hW hx ok1 ok2 ok3 hn
          go_wp2_with (go_at_call 65; refine HW.out.mono ?_; rintro e w5 ⟨A5, c5, rfl, hown5, hb5⟩)
          go_roundw
          case rel =>
            refine ⟨k + 1, (putI (uniK a b k) x).length, A5, c5, by omega, by go_num, rfl, by rw [SUC.out], ?_, BEL.out.trans (hb5.mono HS.out)⟩
            rw [SUC.out]
            exact hown5
          case measure => simp [intOf]; omega
        · have e : k = b.length := by omega
          subst e
          rw [uniK_end] at hn
          have HOM := Lib.hid (show OwI wr w.heap.size (.slice A3 (uni a b).length c3) (uni a b) from (by have h := OWN.out; rw [uniK_end, hn] at h; exact h))
          subst hn
          go_wp2_with (go_at_call 60; refine (HC.out wr A3 c3 HOM.out).mono ?_; rintro e w6 ⟨A6, c6, rfl, hown6, hb6⟩)
          go_ret2
          exact ⟨A6, c6, rfl, hown6, BEL.out.trans (hb6.mono hs)⟩
end Go.Proofs.Ytbbjgcagkmlngac
/- The exponents of a plan with one input; sorted, they are a chain. -/
namespace Go.Proofs.Ytbbjgcagkmlngac
open Go.RowKit

def evS (out : List Int) (st : Int × Int) : List Int := out ++ [leastI (out.getD st.1.toNat 0 + out.getD st.2.toNat 0) 1000001]
def ev (s : List (Int × Int)) : List Int := s.foldl evS [1]
theorem ev_take {s : List (Int × Int)} {k : Nat} (hk : k < s.length) : ev (s.take (k + 1)) = evS (ev (s.take k)) s[k] := by
  unfold ev
  rw [List.take_succ_eq_append_getElem hk, List.foldl_append]
  rfl
theorem ev_length (s : List (Int × Int)) : ∀ k, k ≤ s.length → (ev (s.take k)).length = k + 1 := by
  intro k
  induction k with
  | zero => intro _; rfl
  | succ k ih =>
    intro hk
    rw [ev_take (by omega)]
    unfold evS
    rw [List.length_append, ih (by omega)]
    rfl
theorem getD_map1 (l : List Int) {a : Nat} (ha : a < l.length) : (l.map fun e => [e]).getD a [] = [l.getD a 0] := by simp [ha]
theorem exps_ev {s : List (Int × Int)} (hok : OkS 1 s) : ∀ k, k ≤ s.length → exps 1 (s.take k) = (ev (s.take k)).map fun e => [e] := by
  intro k
  induction k with
  | zero => intro _; rfl
  | succ k ih =>
    intro hk
    have hk' : k < s.length := by omega
    obtain ⟨h1, h2, h3⟩ := hok k hk'
    have hl := ev_length s k (by omega)
    rw [exps_take 1 hk', ev_take hk', ih (by omega)]
    unfold expStep evS
    rw [getD_map1 _ (by omega), getD_map1 _ (by omega), List.map_append]
    rfl
theorem ev_pre {s : List (Int × Int)} : ∀ n k, k ≤ n → n ≤ s.length → ∀ i, i < k + 1 → (ev (s.take n)).getD i 0 = (ev (s.take k)).getD i 0 := by
  intro n
  induction n with
  | zero => intro k hk _ i _; rw [show k = 0 by omega]
  | succ n ih =>
    intro k hk hn i hi
    rcases Nat.lt_or_eq_of_le hk with h | rfl
    · rw [ev_take (by omega)]
      unfold evS
      have hl := ev_length s n (by omega)
      rw [List.getD_eq_getElem?_getD, List.getElem?_append_left (by omega), ← List.getD_eq_getElem?_getD]
      exact ih k (by omega) (by omega) i hi
    · rfl
/-- Of exponents within their bounds each is a sum. -/
theorem ev_sums {s : List (Int × Int)} (hok : OkS 1 s) (hb : expsB (exps 1 s) = true) :
    (ev s).length = s.length + 1 ∧ (ev s).getD 0 0 = 1 ∧ (∀ i, i < s.length + 1 → 1 ≤ (ev s).getD i 0 ∧ (ev s).getD i 0 ≤ 1000000) ∧
      ∀ k, k < s.length → ∃ a b : Nat, a ≤ b ∧ b < k + 1 ∧ (ev s).getD (k + 1) 0 = (ev s).getD a 0 + (ev s).getD b 0 := by
  have hfull : s.take s.length = s := List.take_of_length_le (Nat.le_refl _)
  have hlen := ev_length s s.length (Nat.le_refl _)
  rw [hfull] at hlen
  have hE := exps_ev hok s.length (Nat.le_refl _)
  rw [hfull] at hE
  have hle : ∀ i, i < s.length + 1 → 0 ≤ (ev s).getD i 0 ∧ (ev s).getD i 0 ≤ 1000000 := fun i hi => by
    have hm : [(ev s).getD i 0] ∈ exps 1 s := by
      rw [hE]
      exact List.mem_map.2 ⟨(ev s).getD i 0, mem_getD (by omega), rfl⟩
    unfold expsB at hb
    rw [List.all_eq_true] at hb
    have h := hb _ hm
    unfold allB at h
    simpa [inB] using h
  have h0 : (ev s).getD 0 0 = 1 := by
    have h := ev_pre (s := s) s.length 0 (by omega) (Nat.le_refl _) 0 (by omega)
    rw [hfull] at h
    rw [h]
    rfl
  have hsum : ∀ k, k < s.length → ∃ a b : Nat, a ≤ b ∧ b < k + 1 ∧ (ev s).getD (k + 1) 0 = (ev s).getD a 0 + (ev s).getD b 0 := fun k hk => by
    obtain ⟨h1, h2, h3⟩ := hok k hk
    refine ⟨(s[k]).1.toNat, (s[k]).2.toNat, by omega, by omega, ?_⟩
    have p1 := ev_pre (s := s) s.length (k + 1) (by omega) (Nat.le_refl _) (k + 1) (by omega)
    have p2 := ev_pre (s := s) s.length k (by omega) (Nat.le_refl _) (s[k]).1.toNat (by omega)
    have p3 := ev_pre (s := s) s.length k (by omega) (Nat.le_refl _) (s[k]).2.toNat (by omega)
    rw [hfull] at p1 p2 p3
    have hl := ev_length s k (by omega)
    have e : (ev (s.take (k + 1))).getD (k + 1) 0 = leastI ((ev (s.take k)).getD (s[k]).1.toNat 0 + (ev (s.take k)).getD (s[k]).2.toNat 0) 1000001 := by
      rw [ev_take hk]
      unfold evS
      rw [List.getD_eq_getElem?_getD, List.getElem?_append_right (by omega), hl]
      simp
    rw [p2, p3]
    rw [e] at p1
    have hb1 := hle (k + 1) (by omega)
    rw [p1] at hb1
    rw [p1]
    unfold leastI at hb1 ⊢
    split at hb1
    · rename_i h
      rw [if_pos h]
    · omega
  refine ⟨hlen, h0, fun i hi => ?_, hsum⟩
  refine ⟨?_, (hle i hi).2⟩
  have hpos : ∀ n i, i ≤ n → i < s.length + 1 → 1 ≤ (ev s).getD i 0 := by
    intro n
    induction n with
    | zero => intro i hi _; rw [show i = 0 by omega, h0]; omega
    | succ n ih =>
      intro i hi hl
      rcases Nat.eq_zero_or_pos i with h | h
      · rw [h, h0]; omega
      · obtain ⟨a, b, h1, h2, h3⟩ := hsum (i - 1) (by omega)
        rw [show i - 1 + 1 = i by omega] at h3 h2
        have ha := ih a (by omega) (by omega)
        have hb := ih b (by omega) (by omega)
        omega
  exact hpos i i (Nat.le_refl _) hi

theorem mem_putI_iff (l : List Int) (x y : Int) : y ∈ putI l x ↔ y = x ∨ y ∈ l := by
  unfold putI
  split
  · rename_i h
    constructor
    · exact .inr
    · rintro (rfl | h') <;> assumption
  · unfold insA
    rw [List.mem_append, List.mem_cons]
    constructor
    · rintro (h | h | h)
      · exact .inr (List.mem_of_mem_take h)
      · exact .inl h
      · exact .inr (List.mem_of_mem_drop h)
    · rintro (h | h)
      · exact .inr (.inl h)
      · rw [← List.take_append_drop (cnt l x) l] at h
        rcases List.mem_append.1 h with h | h
        · exact .inl h
        · exact .inr (.inr h)
theorem uni0_ok (b : List Int) : ∀ k, k ≤ b.length → Asc (uniK [] b k) ∧ (uniK [] b k).length ≤ k ∧ ∀ y, y ∈ uniK [] b k ↔ y ∈ b.take k := by
  intro k
  induction k with
  | zero =>
    intro _
    rw [uniK_zero]
    exact ⟨fun i j _ h => absurd h (by simp), by simp, fun y => by simp⟩
  | succ k ih =>
    intro hk
    obtain ⟨h1, h2, h3⟩ := ih (by omega)
    rw [uniK_succ (by omega)]
    refine ⟨putI_asc h1 _, by have := putI_le (uniK [] b k) (b.getD k 0); omega, fun y => ?_⟩
    rw [mem_putI_iff, h3, take_succ_getD (by omega), List.mem_append, List.mem_singleton]
    constructor
    · rintro (h | h)
      · exact .inr h
      · exact .inl h
    · rintro (h | h)
      · exact .inr h
      · exact .inl h
theorem prs_intro {l : List Int} {k i j : Nat} (hij : i ≤ j) (hj : j < k) (h : l.getD i 0 + l.getD j 0 = l.getD k 0) : prs l k k ≠ [] := by
  intro he
  have hm : ((i : Int), (j : Int)) ∈ prs l k k := by
    unfold prs
    refine List.mem_flatMap.2 ⟨j, List.mem_range.2 hj, ?_⟩
    unfold prsJ prsI
    exact List.mem_map.2 ⟨i, List.mem_filter.2 ⟨List.mem_range.2 (by omega), by simpa using h⟩, rfl⟩
  rw [he] at hm
  simp at hm
theorem getD_of_mem {l : List Int} {x : Int} (h : x ∈ l) : ∃ i, i < l.length ∧ l.getD i 0 = x := by
  obtain ⟨i, hi, rfl⟩ := List.mem_iff_getElem.1 h
  exact ⟨i, hi, by simp [hi]⟩
theorem asc_idx {l : List Int} (ha : Asc l) {i k : Nat} (hi : i < l.length) (_hk : k < l.length) (h : l.getD i 0 < l.getD k 0) : i < k := by
  rcases Nat.lt_or_ge i k with h' | h'
  · exact h'
  · have := asc_le ha h' hi
    omega
theorem chain_of_ev {s : List (Int × Int)} (hok : OkS 1 s) (hb : expsB (exps 1 s) = true) (hs : s.length ≤ 40) : chG (uni [] (ev s)) = true := by
  obtain ⟨h1, h2, h3, h4⟩ := ev_sums hok hb
  obtain ⟨ha, hl, hm⟩ := uni0_ok (ev s) (ev s).length (Nat.le_refl _)
  rw [uniK_end] at ha hl hm
  rw [List.take_length] at hm
  obtain ⟨L, hL⟩ : ∃ L, uni [] (ev s) = L := ⟨_, rfl⟩
  rw [hL] at ha hl hm ⊢
  have hr : ∀ i, i < L.length → 1 ≤ L.getD i 0 ∧ L.getD i 0 ≤ 1000000 := fun i hi => by
    obtain ⟨j, hj, e⟩ := getD_of_mem ((hm _).1 (mem_getD hi))
    rw [← e]
    exact h3 j (by omega)
  have hone : (1 : Int) ∈ L := (hm 1).2 (by rw [← h2]; exact mem_getD (by omega))
  obtain ⟨i1, hi1, e1⟩ := getD_of_mem hone
  have hpos : 1 ≤ L.length := by omega
  have hz : L.getD 0 0 = 1 := by
    have := (hr 0 (by omega)).1
    have := asc_le ha (i := 0) (j := i1) (by omega) hi1
    omega
  have hch : Chn L := ⟨hpos, by omega, hz, hr, ha⟩
  unfold chG
  rw [chn_chB hch, Bool.true_and]
  unfold sumsB
  rw [List.all_eq_true]
  intro k hk
  have hkl := List.mem_range.1 hk
  rcases Nat.eq_zero_or_pos k with h | h
  · simp [h]
  · have hne : prs L k k ≠ [] := by
      obtain ⟨j, hj, e⟩ := getD_of_mem ((hm _).1 (mem_getD hkl))
      have hj0 : j ≠ 0 := fun hj0 => by
        rw [hj0, h2] at e
        have := ha 0 k h hkl
        omega
      obtain ⟨a, b, hab, hbk, hsum⟩ := h4 (j - 1) (by omega)
      rw [show j - 1 + 1 = j by omega] at hsum hbk
      obtain ⟨ia, hia, ea⟩ := getD_of_mem ((hm _).2 (mem_getD (l := ev s) (t := a) (by omega)))
      obtain ⟨ib, hib, eb⟩ := getD_of_mem ((hm _).2 (mem_getD (l := ev s) (t := b) (by omega)))
      have pa := (h3 a (by omega)).1
      have pb := (h3 b (by omega)).1
      have ka := asc_idx ha hia hkl (by omega)
      have kb := asc_idx ha hib hkl (by omega)
      rcases Nat.le_total ia ib with h' | h'
      · exact prs_intro h' kb (by omega)
      · exact prs_intro h' ka (by omega)
    simp [isEmpty_ne hne]
end Go.Proofs.Ytbbjgcagkmlngac
/- The plan of a chain is a plan: its exponents are the numbers of the chain. -/
namespace Go.Proofs.Ytbbjgcagkmlngac
open Go.RowKit

theorem getLastD_mem {l : List (Int × Int)} (h : l ≠ []) : l.getLastD (0, 0) ∈ l := by
  rw [last_form h]
  exact List.getElem_mem _
/-- The step to the number k + 1. -/
theorem step_form {l : List Int} (hg : chG l = true) {k : Nat} (hk : k + 1 < l.length) : ∃ i j : Nat, (prs l (k + 1) (k + 1)).getLastD (0, 0) = ((i : Int), (j : Int)) ∧ i ≤ j ∧ j < k + 1 ∧ l.getD i 0 + l.getD j 0 = l.getD (k + 1) 0 := by
  have hne := chG_sums hg (k + 1) (by omega) hk
  obtain ⟨i, j, e, h1, h2, h3⟩ := prs_mem (k + 1) _ (getLastD_mem hne)
  exact ⟨i, j, e, h1, h2, h3⟩
theorem getD_take {l : List Int} {n i : Nat} (h : i < n) : (l.take n).getD i 0 = l.getD i 0 := by
  rw [List.getD_eq_getElem?_getD, List.getElem?_take, if_pos h, ← List.getD_eq_getElem?_getD]
theorem ev_stepsK {l : List Int} (hg : chG l = true) : ∀ k, k + 1 ≤ l.length → ev (stepsK l (k + 1)) = l.take (k + 1) := by
  have hch := chG_chn hg
  intro k
  induction k with
  | zero =>
    intro h
    rw [stepsK_one, take_succ_getD (by omega), hch.one]
    rfl
  | succ k ih =>
    intro hk
    obtain ⟨i, j, e, h1, h2, h3⟩ := step_form hg (k := k) (by omega)
    rw [stepsK_succ l (k + 1) (by omega), e]
    unfold ev
    rw [List.foldl_append]
    have ih' := ih (by omega)
    unfold ev at ih'
    rw [ih']
    show evS (l.take (k + 1)) ((i : Int), (j : Int)) = _
    unfold evS
    simp only [Int.toNat_natCast]
    rw [getD_take (by omega), getD_take (by omega), h3, take_succ_getD (l := l) (k := k + 1) (by omega)]
    have := (hch.rng (k + 1) (by omega)).2
    unfold leastI
    rw [if_pos (by omega)]
theorem okS_stepsK {l : List Int} (hg : chG l = true) : OkS 1 (stepsK l l.length) := by
  intro i hi
  rw [stepsK_length] at hi
  obtain ⟨a, b, e, h1, h2, h3⟩ := step_form hg (k := i) (by omega)
  have e' : (stepsK l l.length)[i]'(by rw [stepsK_length]; exact hi) = ((a : Int), (b : Int)) := by
    unfold stepsK
    rw [List.getElem_map, List.getElem_range, e]
  rw [e']
  simp only
  omega
theorem exps_stepsK {l : List Int} (hg : chG l = true) : exps 1 (stepsK l l.length) = l.map fun e => [e] := by
  have h := exps_ev (okS_stepsK hg) (stepsK l l.length).length (Nat.le_refl _)
  rw [List.take_of_length_le (Nat.le_refl _)] at h
  rw [h]
  have hl := (chG_chn hg).pos
  have e := ev_stepsK hg (l.length - 1) (by omega)
  rw [show l.length - 1 + 1 = l.length by omega, List.take_length] at e
  rw [e]
theorem okPre_of {n : Nat} {s : List (Int × Int)} (h : OkS n s) : ∀ k, k ≤ s.length → okPre n s k = true := by
  intro k
  induction k with
  | zero => intro _; rfl
  | succ k ih =>
    intro hk
    rw [okPre_succ _ _ _ (by omega), ih (by omega)]
    obtain ⟨h1, h2, h3⟩ := h k (by omega)
    unfold stepOk inB
    simp only [Bool.true_and, Bool.and_eq_true, decide_eq_true_eq]
    omega
/-- The plan of a chain with given outputs. -/
theorem good_chain {l o : List Int} (hg : chG l = true) (ho : ∀ x ∈ o, 0 ≤ x ∧ x < (l.length : Int)) : good ⟨1, stepsK l l.length, o⟩ = decide (o.length ≤ 6) := by
  have hch := chG_chn hg
  have h1 := hch.pos
  have h2 := hch.most
  unfold good
  simp only
  have e1 : inB 1 1 6 = true := rfl
  have e2 : decide ((stepsK l l.length).length ≤ 40) = true := by rw [stepsK_length]; simp; omega
  have e3 : okPre 1 (stepsK l l.length) (stepsK l l.length).length = true := okPre_of (n := 1) (okS_stepsK hg) _ (Nat.le_refl _)
  have e4 : expsB (exps (1 : Int).toNat (stepsK l l.length)) = true := by
    show expsB (exps 1 (stepsK l l.length)) = true
    rw [exps_stepsK hg]
    unfold expsB
    rw [List.all_eq_true]
    intro r hr
    obtain ⟨x, hx, rfl⟩ := List.mem_map.1 hr
    obtain ⟨i, hi, rfl⟩ := getD_of_mem hx
    have := hch.rng i hi
    simp only [allB, inB, List.all_cons, List.all_nil, Bool.and_true, Bool.and_eq_true, decide_eq_true_eq]
    omega
  have e5 : allB o 0 (1 + ((stepsK l l.length).length : Int) - 1) = true := by
    unfold allB
    rw [List.all_eq_true]
    intro x hx
    have := ho x hx
    rw [stepsK_length]
    unfold inB
    simp only [Bool.and_eq_true, decide_eq_true_eq]
    omega
  rw [e1, e2, e3, e4, e5]
  simp

def sqO (l t : List Int) : List Int := t.map fun x => (cnt l x : Int)
def sqI (l t : List Int) : Bool := t.all fun x => hasI l x
def sqB (l t : List Int) : Bool := (chG l && decide (t.length ≤ 6)) && sqI l t
def sqR (l t : List Int) : Pl := if sqB l t then trimR ⟨1, stepsK l l.length, sqO l t⟩ else zPl
theorem sqR_true {l t : List Int} (h : sqB l t = true) : sqR l t = trimR ⟨1, stepsK l l.length, sqO l t⟩ := by unfold sqR; rw [if_pos h]
theorem sqR_false {l t : List Int} (h : sqB l t = false) : sqR l t = zPl := by unfold sqR; rw [h]; rfl
theorem sqR_len (l t : List Int) : (sqR l t).s.length ≤ 1000 ∧ (sqR l t).o.length ≤ 1000 := by
  cases h : sqB l t with
  | true => rw [sqR_true h]; exact trimR_len _
  | false => rw [sqR_false h]; simp [zPl]
theorem hasI_true {l : List Int} {x : Int} (h : hasI l x = true) : x ∈ l := by rw [hasI_mem] at h; exact of_decide_eq_true h
theorem cnt_lt {l : List Int} (ha : Asc l) {x : Int} (hx : x ∈ l) : cnt l x < l.length := (mem_at_cnt ha hx).1
theorem sqO_rng {l : List Int} (ha : Asc l) (t : List Int) (k : Nat) (h : sqI l (t.take k) = true) : ∀ x ∈ sqO l (t.take k), 0 ≤ x ∧ x < (l.length : Int) := by
  intro x hx
  unfold sqO at hx
  obtain ⟨y, hy, rfl⟩ := List.mem_map.1 hx
  unfold sqI at h
  rw [List.all_eq_true] at h
  have := cnt_lt ha (hasI_true (h y hy))
  omega
theorem sqI_succ {l t : List Int} {k : Nat} (hk : k < t.length) : sqI l (t.take (k + 1)) = (sqI l (t.take k) && hasI l (t.getD k 0)) := by
  unfold sqI
  rw [take_succ_getD hk, List.all_append]
  simp
theorem sqI_false {l t : List Int} {k : Nat} (hk : k < t.length) (h : hasI l (t.getD k 0) = false) : sqI l t = false := by
  unfold sqI
  rw [List.all_eq_false]
  exact ⟨t.getD k 0, mem_getD hk, by rw [h]; decide⟩
theorem sqO_succ {l t : List Int} {k : Nat} (hk : k < t.length) : sqO l (t.take (k + 1)) = sqO l (t.take k) ++ [(cnt l (t.getD k 0) : Int)] := by
  unfold sqO
  rw [take_succ_getD hk, List.map_append]
  rfl
theorem sqO_len (l t : List Int) {k : Nat} (hk : k ≤ t.length) : (sqO l (t.take k)).length = k := by simp [sqO]; omega
end Go.Proofs.Ytbbjgcagkmlngac
/- The sorted exponents of a plan with one input, by the model. -/
namespace Go.Proofs.Ytbbjgcagkmlngac
open Go.RowKit

def cpG (p : Pl) : Bool := good p && decide (p.n = 1)
def cpL (p : Pl) : List Int := if cpG p then uni [] (ev p.s) else []
theorem cpL_true {p : Pl} (h : cpG p = true) : cpL p = uni [] (ev p.s) := by unfold cpL; rw [if_pos h]
theorem cpL_false {p : Pl} (h : cpG p = false) : cpL p = [] := by unfold cpL; rw [h]; rfl
theorem cpG_facts {p : Pl} (h : cpG p = true) : p.n = 1 ∧ p.s.length ≤ 40 ∧ OkS 1 p.s ∧ expsB (exps 1 p.s) = true ∧ good p = true := by
  unfold cpG at h
  simp only [Bool.and_eq_true, decide_eq_true_eq] at h
  obtain ⟨N, hN, n1, n6, hs40, _, hok, _, hb⟩ := good_facts h.1
  have e : N = 1 := by omega
  subst e
  exact ⟨h.2, hs40, hok, hb, h.1⟩
theorem cpL_le (p : Pl) : (cpL p).length ≤ 1000 := by
  cases h : cpG p with
  | false => rw [cpL_false h]; simp
  | true =>
    obtain ⟨_, hs, hok, hb, _⟩ := cpG_facts h
    rw [cpL_true h]
    have := (chG_chn (chain_of_ev hok hb hs)).most
    omega
theorem exps_row {s : List (Int × Int)} (hok : OkS 1 s) {k : Nat} (hk : k < (exps 1 s).length) : (exps 1 s).getD k [] = [(ev s).getD k 0] := by
  have hE := exps_ev hok s.length (Nat.le_refl _)
  rw [List.take_of_length_le (Nat.le_refl _)] at hE
  have hl : (exps 1 s).length = (ev s).length := by rw [hE]; simp
  have hk' : k < (ev s).length := by omega
  rw [hE]
  exact getD_map1 _ hk'

end Go.Proofs.Ytbbjgcagkmlngac
/- What the end of a chain needs, as data. -/
namespace Go.Proofs.Ytbbjgcagkmlngac
open Go.RowKit

theorem need_more {N : Nat} {s : List (Int × Int)} {o : List Int} {x : Int} : ∀ d j, hasI (needI N s o j) x = true → hasI (needI N s o (j + d)) x = true := by
  intro d
  induction d with
  | zero => intro j h; exact h
  | succ d ih =>
    intro j h
    have h1 := ih j h
    show hasI (needI N s o (j + d + 1)) x = true
    simp only [needI]
    split
    · rw [hasI_two, h1]; rfl
    · exact h1
/-- The operands of a needed step are needed. -/
theorem need_closed {s : List (Int × Int)} {o : List Int} (hs : OkS 1 s) {i : Nat} (hi : i < s.length) (hf : finI 1 s o i = true) : hasI (needI 1 s o s.length) (s[i]).1 = true ∧ hasI (needI 1 s o s.length) (s[i]).2 = true := by
  have hj : s.length - 1 - i < s.length := by omega
  have hij : s.length - 1 - (s.length - 1 - i) = i := by omega
  have h := fin_at (o := o) hs hj hij
  rw [hf] at h
  have h2 := need_hit hi hij h.symm
  have e : s.length - 1 - i + 1 + i = s.length := by omega
  have k1 : hasI (needI 1 s o (s.length - 1 - i + 1)) (s[i]).1 = true := by rw [h2, hasI_two]; simp
  have k2 : hasI (needI 1 s o (s.length - 1 - i + 1)) (s[i]).2 = true := by rw [h2, hasI_two]; simp
  have m1 := need_more i _ k1
  have m2 := need_more i _ k2
  rw [e] at m1 m2
  exact ⟨m1, m2⟩
theorem fin_of {s : List (Int × Int)} {o : List Int} {v : Int} {u : Nat} (h : hasI (needI 1 s o s.length) v = true) (hv : v = (u : Int) + 1) : finI 1 s o u = true := by
  unfold finI
  rw [show ((1 : Nat) : Int) + (u : Int) = v by omega]
  exact h
/-- The values of the kept steps are those of the used ones. -/
theorem asc_ints {m : List Int} (ha : Asc m) {i j : Nat} (hj : j < m.length) (hi : i < m.length) (h : m.getD i 0 < m.getD j 0) : i < j := asc_idx ha hi hj h
theorem us_asc (s : List (Int × Int)) (o : List Int) : Asc (usd 1 s o) := by
  have hp : ((List.range' (s.length - s.length) s.length).filter (finI 1 s o)).Pairwise (· < ·) := List.Pairwise.filter _ List.pairwise_lt_range'
  unfold usd usT
  generalize (List.range' (s.length - s.length) s.length).filter (finI 1 s o) = F at hp
  intro i j hij hj
  rw [List.length_map] at hj
  have h := List.pairwise_iff_getElem.1 hp i j (by omega) hj hij
  have e : ∀ t (ht : t < F.length), (F.map fun i : Nat => (i : Int)).getD t 0 = ((F[t] : Nat) : Int) := fun t ht => by simp [ht]
  rw [e i (by omega), e j hj]
  omega
theorem plc_of {U : List Int} (ha : Asc U) {p : Nat} (hp : p < U.length) {n : Int} (h : U.getD p 0 = n) : plc U n 0 = p := by
  have e : U[p] = n := by rw [← h]; simp [hp]
  refine plc_hit hp ?_ (by rw [e]; simp)
  rw [hasI_mem, decide_eq_false_iff_not, mem_take_getD (by omega)]
  rintro ⟨i, hi, hin⟩
  have := ha i p hi hp
  omega
def kv (l U : List Int) (k : Nat) : List Int := 1 :: (U.take k).map fun u => l.getD (u.toNat + 1) 0
theorem kv_len (l U : List Int) {k : Nat} (hk : k ≤ U.length) : (kv l U k).length = k + 1 := by simp [kv]; omega
theorem kv_at (l U : List Int) {k p : Nat} (hp : p < k) (hk : k ≤ U.length) : (kv l U k).getD (p + 1) 0 = l.getD ((U.getD p 0).toNat + 1) 0 := by
  unfold kv
  rw [List.getD_cons_succ]
  have : p < U.length := by omega
  simp [hp, this]
theorem kv_succ (l U : List Int) {k : Nat} (hk : k < U.length) : kv l U (k + 1) = kv l U k ++ [l.getD ((U.getD k 0).toNat + 1) 0] := by
  unfold kv
  rw [take_succ_getD hk, List.map_append]
  rfl

/-- Where an operand of the k-th used step stands among the kept values. -/
theorem num_pos {l : List Int} (hg : chG l = true) {o : List Int} {S : List (Int × Int)} (_hS : stepsK l l.length = S) {U : List Int} (hU : usd 1 S o = U) {k : Nat} (hk : k < U.length) {v : Int} (h0 : 0 ≤ v) (hv : v ≤ U.getD k 0) (hn : hasI (needI 1 S o S.length) v = true) :
    ∃ p : Nat, numI 1 U v = p ∧ p < k + 1 ∧ (kv l U k).getD p 0 = l.getD v.toNat 0 := by
  have ha : Asc U := by rw [← hU]; exact us_asc S o
  rcases Int.lt_or_eq_of_le h0 with hpos | hz
  · have hfin := fin_of (u := v.toNat - 1) hn (by omega)
    have hul : ∀ x ∈ U, 0 ≤ x ∧ x < (S.length : Int) := by rw [← hU]; exact usd_in
    have hlt := (hul _ (mem_getD hk)).2
    have hmem : ((v.toNat - 1 : Nat) : Int) ∈ U := by
      rw [← hU]
      exact usd_mem.2 ⟨v.toNat - 1, by omega, hfin, rfl⟩
    obtain ⟨p, hp, he⟩ := getD_of_mem hmem
    have hpk : p < k := asc_ints ha hk hp (by rw [he]; omega)
    refine ⟨p + 1, ?_, by omega, ?_⟩
    · unfold numI
      rw [if_neg (by omega), plc_of ha hp (n := v - ((1 : Nat) : Int)) (by rw [he]; omega)]
      omega
    · rw [kv_at l U hpk (by omega), he]
      congr 1
      omega
  · subst hz
    refine ⟨0, rfl, by omega, ?_⟩
    unfold kv
    rw [List.getD_cons_zero]
    exact (chG_chn hg).one.symm
theorem stI_cases (a b : Int) : stI a b = (a, b) ∨ stI a b = (b, a) := by
  unfold stI leastI mostI
  by_cases h : a < b
  · left; rw [if_pos h, if_neg (by omega)]
  · by_cases h' : b < a
    · right; rw [if_neg h, if_pos h']
    · left; rw [if_neg h, if_neg h', show a = b by omega]
theorem stI_le (a b : Int) : (stI a b).1 ≤ (stI a b).2 := by
  unfold stI leastI mostI
  simp only
  split <;> split <;> omega
/-- The kept steps, one by one. -/
theorem keep_facts {l : List Int} (hg : chG l = true) {o : List Int} {S : List (Int × Int)} (hS : stepsK l l.length = S) {U : List Int} (hU : usd 1 S o = U) : ∀ k, k ≤ U.length →
    ev (keepS ⟨1, S, o⟩ 1 U k) = kv l U k ∧ OkS 1 (keepS ⟨1, S, o⟩ 1 U k) := by
  have hul : ∀ x ∈ U, 0 ≤ x ∧ x < (S.length : Int) := by rw [← hU]; exact usd_in
  have hok : OkS 1 S := by rw [← hS]; exact okS_stepsK hg
  have hSl : S.length = l.length - 1 := by rw [← hS, stepsK_length]
  intro k
  induction k with
  | zero => intro _; exact ⟨rfl, fun i hi => absurd hi (by simp [keepS])⟩
  | succ k ih =>
    intro hk
    obtain ⟨h1, h2⟩ := ih (by omega)
    have hk' : k < U.length := by omega
    have hux := hul _ (mem_getD hk')
    obtain ⟨u, hu⟩ : ∃ u : Nat, U.getD k 0 = u := ⟨(U.getD k 0).toNat, by omega⟩
    have hus : u < S.length := by omega
    have huk : U[k] = (u : Int) := by rw [← hu]; simp [hk']
    have hfin : finI 1 S o u = true := by
      have hm : (u : Int) ∈ usd 1 S o := by rw [hU, ← hu]; exact mem_getD hk'
      obtain ⟨i, _, hi2, hi3⟩ := usd_mem.1 hm
      have : u = i := by omega
      rw [this]
      exact hi2
    obtain ⟨n1, n2⟩ := need_closed hok hus hfin
    obtain ⟨o1, o2, o3⟩ := hok u hus
    obtain ⟨p, hp1, hp2, hp3⟩ := num_pos hg hS hU hk' (v := (S[u]).1) o1 (by omega) n1
    obtain ⟨q, hq1, hq2, hq3⟩ := num_pos hg hS hU hk' (v := (S[u]).2) (by omega) (by omega) n2
    obtain ⟨a, b, e, _, _, e3⟩ := step_form hg (k := u) (by omega)
    have eS : S[u] = ((a : Int), (b : Int)) := by
      have : S[u] = (stepsK l l.length)[u]'(by rw [hS]; exact hus) := by congr 1; exact hS.symm
      rw [this]
      unfold stepsK
      rw [List.getElem_map, List.getElem_range, e]
    have hks := keepS_succ (p := ⟨1, S, o⟩) (N := 1) hk' huk hus
    simp only at hks
    rw [hp1, hq1] at hks
    have hlen : (keepS ⟨1, S, o⟩ 1 U k).length = k := keepS_len _ _ _ (by omega)
    have hrng := ((chG_chn hg).rng (u + 1) (by omega)).2
    have hsum : (kv l U k).getD p 0 + (kv l U k).getD q 0 = l.getD (u + 1) 0 := by
      rw [hp3, hq3, eS]
      exact e3
    refine ⟨?_, ?_⟩
    · rw [hks]
      unfold ev
      rw [List.foldl_append]
      unfold ev at h1
      rw [h1]
      show evS (kv l U k) (stI (p : Int) (q : Int)) = _
      rw [kv_succ l U hk', hu]
      unfold evS
      rcases stI_cases (p : Int) (q : Int) with h | h
      · rw [h]
        simp only [Int.toNat_natCast]
        rw [hsum]
        unfold leastI
        rw [if_pos (by omega)]
      · rw [h]
        simp only [Int.toNat_natCast]
        rw [Int.add_comm, hsum]
        unfold leastI
        rw [if_pos (by omega)]
    · rw [hks]
      intro i hi
      rw [List.length_append, hlen] at hi
      rcases Nat.lt_or_eq_of_le (Nat.le_of_lt_succ hi) with h | h
      · have hi' : i < (keepS ⟨1, S, o⟩ 1 U k).length := by omega
        rw [List.getElem_append_left hi']
        exact h2 i hi'
      · have e' : (keepS ⟨1, S, o⟩ 1 U k ++ [stI (p : Int) (q : Int)])[i]'(by rw [List.length_append, hlen]; exact hi) = stI (p : Int) (q : Int) := by
          rw [List.getElem_append_right (by omega)]
          simp
        rw [e']
        have hle := stI_le (p : Int) (q : Int)
        rcases stI_cases (p : Int) (q : Int) with h' | h' <;> (rw [h'] at hle ⊢; simp only at hle ⊢; omega)

/-- A rising list is what it is made of. -/
theorem uniK_asc {m : List Int} (ha : Asc m) : ∀ k, k ≤ m.length → uniK [] m k = m.take k := by
  intro k
  induction k with
  | zero => intro _; simp [uniK_zero]
  | succ k ih =>
    intro hk
    rw [uniK_succ (by omega), ih (by omega), take_succ_getD (by omega)]
    have hlt : ∀ t, t < k → (m.take k).getD t 0 < m.getD k 0 := fun t ht => by rw [getD_take ht]; exact ha t k ht (by omega)
    have hl : (m.take k).length = k := by rw [List.length_take]; omega
    have hc : cnt (m.take k) (m.getD k 0) = k := cnt_at (by omega) hlt (fun t h1 h2 => by omega)
    have hn : ¬ m.getD k 0 ∈ m.take k := by
      rw [mem_take_getD (by omega)]
      rintro ⟨i, hi, he⟩
      have := ha i k hi (by omega)
      omega
    rw [putI_new hn, hc]
    unfold insA
    rw [List.take_of_length_le (by omega), List.drop_of_length_le (by omega)]
theorem uni_asc {m : List Int} (ha : Asc m) : uni [] m = m := by
  rw [← uniK_end, uniK_asc ha m.length (Nat.le_refl _), List.take_length]
theorem asc_ext : ∀ (n : Nat) {a b : List Int}, a.length = n → Asc a → Asc b → (∀ x, x ∈ a ↔ x ∈ b) → a = b := by
  intro n a b _ ha hb h
  have key : ∀ {a b : List Int}, Asc a → Asc b → (∀ x, x ∈ a ↔ x ∈ b) → ∀ k, k < a.length → k < b.length ∧ a.getD k 0 = b.getD k 0 := by
    intro a b ha hb h k
    induction k using Nat.strongRecOn with
    | ind k ih =>
      intro hk
      obtain ⟨i, hi, ei⟩ := getD_of_mem ((h _).1 (mem_getD hk))
      have hki : k ≤ i := by
        rcases Nat.lt_or_ge i k with h' | h'
        · have h1 := (ih i h' (by omega)).2
          have := ha i k h' hk
          omega
        · exact h'
      have hkb : k < b.length := by omega
      refine ⟨hkb, ?_⟩
      obtain ⟨j, hj, ej⟩ := getD_of_mem ((h _).2 (mem_getD hkb))
      have h1 : b.getD k 0 ≤ b.getD i 0 := asc_le hb hki hi
      have hkj : k ≤ j := by
        rcases Nat.lt_or_ge j k with h' | h'
        · have h2 := (ih j h' (by omega)).2
          have := hb j k h' hkb
          omega
        · exact h'
      have h2 : a.getD k 0 ≤ a.getD j 0 := asc_le ha hkj hj
      omega
  refine List.ext_getElem ?_ fun k h1 h2 => ?_
  · rcases Nat.lt_trichotomy a.length b.length with h' | h' | h'
    · have := (key hb ha (fun x => (h x).symm) a.length h').1
      omega
    · exact h'
    · have := (key ha hb h b.length h').1
      omega
  · have h3 := (key ha hb h k h1).2
    simpa [h1, h2] using h3

/-- The numbers that the end of a chain needs. -/
def ndU (l : List Int) : List Int := usd 1 (stepsK l l.length) [(l.length : Int) - 1]
def ndL (l : List Int) : List Int := if chG l then kv l (ndU l) (ndU l).length else []
theorem ndL_true {l : List Int} (h : chG l = true) : ndL l = kv l (ndU l) (ndU l).length := by unfold ndL; rw [if_pos h]
theorem ndL_false {l : List Int} (h : chG l = false) : ndL l = [] := by unfold ndL; rw [h]; rfl
theorem ndU_rng (l : List Int) : ∀ x ∈ ndU l, 0 ≤ x ∧ x < ((stepsK l l.length).length : Int) := usd_in
theorem ndU_len {l : List Int} (hg : chG l = true) : (ndU l).length ≤ 40 := by
  have h := us_len 1 (stepsK l l.length) [(l.length : Int) - 1] (stepsK l l.length).length
  have h2 : (stepsK l l.length).length = l.length - 1 := stepsK_length _ _
  have := (chG_chn hg).most
  unfold ndU usd
  omega
theorem ndL_le (l : List Int) : (ndL l).length ≤ 1000 := by
  cases hg : chG l with
  | false => rw [ndL_false hg]; simp
  | true => rw [ndL_true hg, kv_len _ _ (Nat.le_refl _)]; have := ndU_len hg; omega
theorem kv_asc {l : List Int} (hg : chG l = true) : Asc (kv l (ndU l) (ndU l).length) := by
  have hch := chG_chn hg
  have hU := us_asc (stepsK l l.length) [(l.length : Int) - 1]
  have hr := ndU_rng l
  have h2 : (stepsK l l.length).length = l.length - 1 := stepsK_length _ _
  intro i j hij hj
  rw [kv_len _ _ (Nat.le_refl _)] at hj
  obtain ⟨j', rfl⟩ : ∃ t, j = t + 1 := ⟨j - 1, by omega⟩
  have hj' : j' < (ndU l).length := by omega
  have rj := hr _ (mem_getD hj')
  rw [kv_at l (ndU l) hj' (Nat.le_refl _)]
  cases i with
  | zero =>
    unfold kv
    rw [List.getD_cons_zero, ← hch.one]
    exact hch.asc 0 _ (by omega) (by omega)
  | succ i' =>
    have hi' : i' < (ndU l).length := by omega
    have ri := hr _ (mem_getD hi')
    rw [kv_at l (ndU l) hi' (Nat.le_refl _)]
    have := hU i' j' (by omega) hj'
    unfold ndU at *
    exact hch.asc _ _ (by omega) (by omega)
/-- The trimmed plan of a chain has the needed numbers as its exponents. -/
theorem trim_chain {l : List Int} (hg : chG l = true) : cpG (trimR (chP l)) = true ∧ cpL (trimR (chP l)) = ndL l := by
  have hch := chG_chn hg
  have h1 := hch.pos
  have h2 : (stepsK l l.length).length = l.length - 1 := stepsK_length _ _
  have hout : ∀ x ∈ [(l.length : Int) - 1], 0 ≤ x ∧ x < (l.length : Int) := fun x hx => by simp at hx; omega
  have hgood := good_chain hg hout
  rw [show decide ([(l.length : Int) - 1].length ≤ 6) = true from rfl] at hgood
  rw [chP_true hg, trimR_good hgood (N := 1) rfl]
  simp only
  have hk := keep_facts hg (o := [(l.length : Int) - 1]) rfl (U := ndU l) rfl (ndU l).length (Nat.le_refl _)
  have hUe : usd 1 (stepsK l l.length) [(l.length : Int) - 1] = ndU l := rfl
  rw [hUe]
  obtain ⟨e1, e2⟩ := hk
  have hl := keepS_len ⟨1, stepsK l l.length, [(l.length : Int) - 1]⟩ 1 (ndU l) (Nat.le_refl (ndU l).length)
  have hU40 := ndU_len hg
  have hasc := kv_asc hg
  obtain ⟨KS, hKS⟩ : ∃ KS, keepS ⟨1, stepsK l l.length, [(l.length : Int) - 1]⟩ 1 (ndU l) (ndU l).length = KS := ⟨_, rfl⟩
  rw [hKS] at e1 e2 hl ⊢
  have hrng : ∀ x ∈ kv l (ndU l) (ndU l).length, 0 ≤ x ∧ x ≤ 1000000 := fun x hx => by
    unfold kv at hx
    rcases List.mem_cons.1 hx with rfl | hx
    · omega
    · obtain ⟨u, hu, rfl⟩ := List.mem_map.1 hx
      have := ndU_rng l u (List.mem_of_mem_take hu)
      have := hch.rng (u.toNat + 1) (by omega)
      omega
  have hE := exps_ev e2 KS.length (Nat.le_refl _)
  rw [List.take_of_length_le (Nat.le_refl _)] at hE
  have hb : expsB (exps 1 KS) = true := by
    rw [hE, e1]
    unfold expsB
    rw [List.all_eq_true]
    intro r hr
    obtain ⟨x, hx, rfl⟩ := List.mem_map.1 hr
    have := hrng x hx
    simp only [allB, inB, List.all_cons, List.all_nil, Bool.and_true, Bool.and_eq_true, decide_eq_true_eq]
    omega
  have hgt : good (⟨1, KS, keepO ⟨1, stepsK l l.length, [(l.length : Int) - 1]⟩ 1 (ndU l) [(l.length : Int) - 1].length⟩ : Pl) = true := by
    have hol : (keepO ⟨1, stepsK l l.length, [(l.length : Int) - 1]⟩ 1 (ndU l) [(l.length : Int) - 1].length).length = 1 := keepO_len ⟨1, stepsK l l.length, [(l.length : Int) - 1]⟩ 1 (ndU l) (Nat.le_refl _)
    unfold good
    simp only
    have a1 : inB 1 1 6 = true := rfl
    have a2 : decide (KS.length ≤ 40) = true := by simp; omega
    have a3 : okPre 1 KS KS.length = true := okPre_of (n := 1) e2 _ (Nat.le_refl _)
    have a5 : allB (keepO ⟨1, stepsK l l.length, [(l.length : Int) - 1]⟩ 1 (ndU l) [(l.length : Int) - 1].length) 0 (1 + (KS.length : Int) - 1) = true := by
      unfold allB
      rw [List.all_eq_true]
      intro x hx
      unfold keepO at hx
      simp only [List.length_cons, List.length_nil, List.take_succ_cons, List.take_nil, List.map_cons, List.map_nil, List.mem_singleton] at hx
      subst hx
      have hv : 0 ≤ numI 1 (ndU l) ((l.length : Int) - 1) ∧ numI 1 (ndU l) ((l.length : Int) - 1) ≤ ((ndU l).length : Int) := by
        by_cases hl1 : l.length = 1
        · have : (l.length : Int) - 1 = 0 := by omega
          rw [this]
          unfold numI
          rw [if_pos (by omega)]
          omega
        · have hm : ((l.length - 2 : Nat) : Int) ∈ ndU l := by
            refine usd_mem.2 ⟨l.length - 2, by omega, ?_, rfl⟩
            refine fin_of (v := (l.length : Int) - 1) ?_ (by omega)
            have h0 : hasI (needI 1 (stepsK l l.length) [(l.length : Int) - 1] 0) ((l.length : Int) - 1) = true := by simp [needI, hasI]
            have h := need_more (stepsK l l.length).length _ h0
            rw [Nat.zero_add] at h
            exact h
          obtain ⟨p, hp, he⟩ := getD_of_mem hm
          unfold numI
          rw [if_neg (by omega), plc_of (U := ndU l) (us_asc (stepsK l l.length) [(l.length : Int) - 1]) hp (n := (l.length : Int) - 1 - ((1 : Nat) : Int)) (by
            show (ndU l).getD p 0 = _
            rw [he]; omega)]
          omega
      unfold inB
      simp only [Bool.and_eq_true, decide_eq_true_eq]
      omega
    rw [a1, a2, a3, show (1 : Int).toNat = 1 from rfl, hb, a5, hol]
    rfl
  have hcp : cpG (⟨1, KS, keepO ⟨1, stepsK l l.length, [(l.length : Int) - 1]⟩ 1 (ndU l) [(l.length : Int) - 1].length⟩ : Pl) = true := by
    unfold cpG
    rw [hgt]
    rfl
  refine ⟨hcp, ?_⟩
  rw [cpL_true hcp, ndL_true hg]
  simp only
  rw [e1]
  exact uni_asc hasc

theorem need_rng {s : List (Int × Int)} {o : List Int} (hs : OkS 1 s) (ho : ∀ x ∈ o, 0 ≤ x ∧ x ≤ (s.length : Int)) : ∀ j, j ≤ s.length → ∀ x ∈ needI 1 s o j, 0 ≤ x ∧ x ≤ (s.length : Int) := by
  intro j
  induction j with
  | zero => intro _; exact ho
  | succ j ih =>
    intro hj x hx
    have hlt : s.length - 1 - j < s.length := by omega
    obtain ⟨h1, h2, h3⟩ := hs _ hlt
    have e : s.getD (s.length - 1 - j) (0, 0) = s[s.length - 1 - j] := by simp [hlt]
    simp only [needI] at hx
    split at hx
    · rw [e] at hx
      rcases List.mem_append.1 hx with h | h
      · exact ih (by omega) x h
      · simp only [List.mem_cons, List.not_mem_nil, or_false] at h
        rcases h with rfl | rfl <;> omega
    · exact ih (by omega) x hx
theorem need_zero {s : List (Int × Int)} {o : List Int} (hs : OkS 1 s) (ho : ∀ x ∈ o, 0 ≤ x ∧ x ≤ (s.length : Int)) : ∀ (n : Nat) (v : Int), v.toNat ≤ n → v ∈ needI 1 s o s.length → (0 : Int) ∈ needI 1 s o s.length := by
  intro n
  induction n with
  | zero =>
    intro v hv hm
    have := need_rng hs ho s.length (Nat.le_refl _) v hm
    rwa [show v = 0 by omega] at hm
  | succ n ih =>
    intro v hv hm
    have hr := need_rng hs ho s.length (Nat.le_refl _) v hm
    rcases Int.lt_or_eq_of_le hr.1 with h | h
    · have hi : v.toNat - 1 < s.length := by omega
      have hf := fin_of (s := s) (o := o) (u := v.toNat - 1) (v := v) (by rw [hasI_mem]; simpa using hm) (by omega)
      obtain ⟨h1, h2, h3⟩ := hs _ hi
      exact ih _ (by omega) (hasI_true (need_closed hs hi hf).1)
    · rwa [← h] at hm
def ndO (l : List Int) : List Int := [(l.length : Int) - 1]
def ndX (l : List Int) (j : Nat) : List Int := uni [] (needI 1 (stepsK l l.length) (ndO l) j)
theorem ndX_mem (l : List Int) (j : Nat) (x : Int) : x ∈ ndX l j ↔ x ∈ needI 1 (stepsK l l.length) (ndO l) j := by
  have h := (uni0_ok (needI 1 (stepsK l l.length) (ndO l) j) _ (Nat.le_refl _)).2.2 x
  rw [uniK_end, List.take_length] at h
  exact h
theorem ndX_asc (l : List Int) (j : Nat) : Asc (ndX l j) := by
  have h := (uni0_ok (needI 1 (stepsK l l.length) (ndO l) j) _ (Nat.le_refl _)).1
  rw [uniK_end] at h
  exact h
theorem ndX_le (l : List Int) (j : Nat) : (ndX l j).length ≤ 1 + 2 * j := by
  have h := (uni0_ok (needI 1 (stepsK l l.length) (ndO l) j) _ (Nat.le_refl _)).2.1
  rw [uniK_end] at h
  have h2 := need_len 1 (stepsK l l.length) (ndO l) j
  have h3 : (ndO l).length = 1 := rfl
  unfold ndX
  omega
theorem hasI_ndX (l : List Int) (j : Nat) (x : Int) : hasI (ndX l j) x = hasI (needI 1 (stepsK l l.length) (ndO l) j) x := by
  rw [hasI_mem, hasI_mem, decide_eq_decide]
  exact ndX_mem l j x
theorem uni_snoc2 (m : List Int) (a b : Int) : uni [] (m ++ [a, b]) = putI (putI (uni [] m) a) b := by
  unfold uni
  rw [List.foldl_append]
  rfl
theorem ndX_rng {l : List Int} (hg : chG l = true) {j : Nat} (hj : j ≤ l.length - 1) : ∀ x ∈ ndX l j, 0 ≤ x ∧ x < (l.length : Int) := by
  intro x hx
  have h2 : (stepsK l l.length).length = l.length - 1 := stepsK_length _ _
  have hp := (chG_chn hg).pos
  have h := need_rng (okS_stepsK hg) (o := ndO l) (fun x hx => by unfold ndO at hx; simp at hx; omega) j (by omega) x ((ndX_mem l j x).1 hx)
  omega
theorem ndX_end {l : List Int} (hg : chG l = true) : ndX l (l.length - 1) = 0 :: (ndU l).map fun u => u + 1 := by
  have hch := chG_chn hg
  have hp := hch.pos
  have h2 : (stepsK l l.length).length = l.length - 1 := stepsK_length _ _
  have hok := okS_stepsK hg
  have ho : ∀ x ∈ ndO l, 0 ≤ x ∧ x ≤ ((stepsK l l.length).length : Int) := fun x hx => by unfold ndO at hx; simp at hx; omega
  have hU := us_asc (stepsK l l.length) [(l.length : Int) - 1]
  have hr := ndU_rng l
  have ha2 : Asc (0 :: (ndU l).map fun u => u + 1) := by
    intro i j hij hj
    simp only [List.length_cons, List.length_map] at hj
    have e : ∀ t, t < (ndU l).length → (0 :: (ndU l).map fun u => u + 1).getD (t + 1) 0 = (ndU l).getD t 0 + 1 := fun t ht => by
      rw [List.getD_cons_succ]
      simp [ht]
    obtain ⟨j', rfl⟩ : ∃ t, j = t + 1 := ⟨j - 1, by omega⟩
    rw [e j' (by omega)]
    have rj := hr _ (mem_getD (l := ndU l) (t := j') (by omega))
    cases i with
    | zero => rw [List.getD_cons_zero]; omega
    | succ i' =>
      rw [e i' (by omega)]
      have := hU i' j' (by omega) (show j' < (ndU l).length by omega)
      unfold ndU
      omega
  refine asc_ext _ rfl (ndX_asc l _) ha2 fun x => ?_
  rw [ndX_mem, List.mem_cons, List.mem_map, ← h2]
  constructor
  · intro hm
    have hx := need_rng hok ho _ (Nat.le_refl _) x hm
    rcases Int.lt_or_eq_of_le hx.1 with h | h
    · refine .inr ⟨x - 1, ?_, by omega⟩
      have hf := fin_of (u := x.toNat - 1) (v := x) (by rw [hasI_mem]; simpa using hm) (by omega)
      have hm2 : ((x.toNat - 1 : Nat) : Int) ∈ ndU l := usd_mem.2 ⟨x.toNat - 1, by omega, hf, rfl⟩
      rwa [show ((x.toNat - 1 : Nat) : Int) = x - 1 by omega] at hm2
    · exact .inl h.symm
  · rintro (rfl | ⟨u, hu, rfl⟩)
    · have h0 : hasI (needI 1 (stepsK l l.length) (ndO l) 0) ((l.length : Int) - 1) = true := by simp [needI, hasI, ndO]
      have h := need_more (stepsK l l.length).length _ h0
      rw [Nat.zero_add] at h
      exact need_zero hok ho _ _ (Nat.le_refl _) (hasI_true h)
    · obtain ⟨i, hi, hf, rfl⟩ := usd_mem.1 hu
      unfold finI at hf
      have h := hasI_true hf
      rwa [show ((1 : Nat) : Int) + (i : Int) = (i : Int) + 1 by omega] at h
/-- The numbers of the list at the needed indices. -/
theorem ndL_eq {l : List Int} (hg : chG l = true) : (ndX l (l.length - 1)).map (fun x => l.getD x.toNat 0) = ndL l := by
  rw [ndX_end hg, ndL_true hg]
  unfold kv
  rw [List.take_length, List.map_cons, List.map_map]
  congr 1
  · exact (chG_chn hg).one
  · apply List.map_congr_left
    intro u hu
    have := ndU_rng l u hu
    show l.getD (u + 1).toNat 0 = l.getD (u.toNat + 1) 0
    congr 1
    omega
end Go.Proofs.Ytbbjgcagkmlngac
/- The sorted exponents of a plan with one input, by the program. -/
namespace Go.Proofs.Ytbbjgcagkmlngac
open Go.RowKit

theorem vals_good {p : Pl} (h : cpG p = true) : valsI p = some ((exps 1 p.s).map (pad 1)) := by
  obtain ⟨hn, _, _, _, hg⟩ := cpG_facts h
  rw [valsI_eq, hg, if_pos rfl, hn]
  rfl
theorem vals_bad {p : Pl} (h : good p = false) : valsI p = none := by rw [valsI_eq, h]; rfl
theorem six_pad1 {s : List (Int × Int)} (hok : OkS 1 s) : Six ((exps 1 s).map (pad 1)) := by
  intro r hr
  obtain ⟨r0, h0, rfl⟩ := List.mem_map.1 hr
  have h := exps_ok hok s.length (Nat.le_refl _)
  rw [List.take_of_length_le (Nat.le_refl _)] at h
  have := (h r0 h0).1
  simp [pad, this]
/-- The six cells of a value. -/
theorem six_cells {w : World} {B R c : Nat} {A : Option Addr} {e : TypeId} {rows : List (List Int)} (hs : Six rows) (hR : rows.length = R) (h : w.ownsRow B e 6 (.slice A R c) R (fl6 rows)) {k : Nat} (hk : k < R) :
    ∃ g, A = some ⟨g, 0, none⟩ ∧ g < w.heap.size ∧ w.cell? ⟨g, k * 6, none⟩ = some (.int .i64 ((rows.getD k []).getD 0 0)) ∧ w.cell? ⟨g, k * 6 + 1, none⟩ = some (.int .i64 ((rows.getD k []).getD 1 0)) ∧ w.cell? ⟨g, k * 6 + 2, none⟩ = some (.int .i64 ((rows.getD k []).getD 2 0)) ∧
      w.cell? ⟨g, k * 6 + 3, none⟩ = some (.int .i64 ((rows.getD k []).getD 3 0)) ∧ w.cell? ⟨g, k * 6 + 4, none⟩ = some (.int .i64 ((rows.getD k []).getD 4 0)) ∧ w.cell? ⟨g, k * 6 + 5, none⟩ = some (.int .i64 ((rows.getD k []).getD 5 0)) := by
  obtain ⟨g, rfl, _, hg, hc, _⟩ := own_at h (by omega)
  have hk' : k < rows.length := by omega
  have key : ∀ j, j < 6 → w.cell? ⟨g, k * 6 + j, none⟩ = some (.int .i64 ((rows.getD k []).getD j 0)) := fun j hj => by
    rw [hc _ (by omega), fl6_at hs hk' hj]
    simp [hk', I]
  exact ⟨g, rfl, hg, key 0 (by omega), key 1 (by omega), key 2 (by omega), key 3 (by omega), key 4 (by omega), key 5 (by omega)⟩

set_option maxRecDepth 100000 in
set_option maxHeartbeats 4000000 in
theorem implCp_any (B : Nat) (A1 A2 : Option Addr) (c1 c2 : Nat) (p : Pl) (w : World) (hB : B ≤ w.heap.size) (hls : p.s.length ≤ 2000000) (hlo : p.o.length ≤ 2000000) (hr : RdP w B A1 A2 p) :
    Calls Try.prog 71 #[.agg #[.int .i64 p.n, .slice A1 p.s.length c1, .slice A2 p.o.length c2]] w fun e w' =>
      ∃ A c, e = .returned (.tuple #[.slice A (cpL p).length c, .bool (cpG p)]) ∧ OwI w' w.heap.size (.slice A (cpL p).length c) (cpL p) ∧ Below w.heap.size w w' := by
  have H := Lib.hid hr
  clear hr
  have hC := fun (W : World) (hb : Below w.heap.size w W) => withValues_any B A1 A2 c1 c2 p W (by have := hb.size; omega) hls hlo (H.out.below' hb hB)
  have HC := Lib.hid hC
  clear hC
  cases hg : good p with
  | false =>
    have E := Lib.hid (show cpG p = false by unfold cpG; rw [hg]; rfl)
    have VB := Lib.hid (vals_bad hg)
    clear hg
    go_enter Try.func71, Try.ntmps71
    go_wp2_with fail
    go_at_call 83
    generalize hw1 : World.alloc w _ = w1
    obtain ⟨x0, x1, x2, xs, xb⟩ := box3 hw1
    clear hw1
    refine (HC.out w1 xb).mono ?_
    rintro e w2 ⟨hb2, hpost⟩
    rw [VB.out] at hpost
    simp only at hpost
    subst hpost
    have HB2 := Lib.hid (xb.trans (hb2.mono (show w.heap.size ≤ w1.heap.size by omega)))
    have hs2 : w.heap.size ≤ w2.heap.size := HB2.out.size
    clear x0 x1 x2 xs xb hb2
    go_wp2
    go_ret2
    exact ⟨none, 0, by rw [E.out, cpL_false E.out]; rfl, by rw [cpL_false E.out]; exact OwI.nil _ _, HB2.out.alloc hs2 _⟩
  | true =>
    by_cases hn : p.n = 1
    case neg =>
      have E := Lib.hid (show cpG p = false by unfold cpG; rw [decide_eq_false hn]; simp)
      have VG := Lib.hid (show valsI p = some ((exps p.n.toNat p.s).map (pad p.n.toNat)) by rw [valsI_eq, hg]; rfl)
      have HNB := Lib.hid (show (p.n != 1) = true by simpa using hn)
      clear hg hn
      go_enter Try.func71, Try.ntmps71
      go_wp2_with fail
      go_at_call 83
      generalize hw1 : World.alloc w _ = w1
      obtain ⟨x0, x1, x2, xs, xb⟩ := box3 hw1
      clear hw1
      refine (HC.out w1 xb).mono ?_
      rintro e w2 ⟨hb2, hpost⟩
      rw [VG.out] at hpost
      simp only at hpost
      obtain ⟨A3, c3, rfl, _⟩ := hpost
      have y0 := cell_kept ((hb2.cell (p := ⟨w.heap.size, 0, none⟩) (by simp only []; omega)).trans x0)
      have HB2 := Lib.hid (xb.trans (hb2.mono (show w.heap.size ≤ w1.heap.size by omega)))
      have hs2 : w.heap.size ≤ w2.heap.size := HB2.out.size
      have hnb := HNB.out
      clear x0 x1 x2 xs xb hb2
      go_wp2
      go_ret2
      exact ⟨none, 0, by rw [E.out, cpL_false E.out]; rfl, by rw [cpL_false E.out]; exact OwI.nil _ _, HB2.out.alloc hs2 _⟩
    case pos =>
      have hcp : cpG p = true := by unfold cpG; rw [hg, decide_eq_true hn]; rfl
      obtain ⟨hn', hs40, hok, hbb, hgg⟩ := cpG_facts hcp
      clear hn' hgg
      have hul : (uni [] (ev p.s)).length ≤ 41 := (chG_chn (chain_of_ev hok hbb hs40)).most
      have VG := Lib.hid (vals_good hcp)
      have E := Lib.hid hcp
      rw [cpL_true hcp]
      have hrow := fun k (hk : k < (exps 1 p.s).length) => exps_row hok hk
      have hevl : (ev p.s).length = p.s.length + 1 := (ev_sums hok hbb).1
      have hel : (exps 1 p.s).length = 1 + p.s.length := exps_length 1 p.s
      have hsix := six_pad1 hok
      obtain ⟨V, hV⟩ : ∃ V, ev p.s = V := ⟨_, rfl⟩
      rw [hV] at hevl hul hrow ⊢
      have hrow2 : ∀ k, k < V.length → (((exps 1 p.s).map (pad 1)).getD k []).getD 0 0 = V.getD k 0 := fun k hk => by
        have h1 := hrow k (by omega)
        have hk' : k < (exps 1 p.s).length := by omega
        have e : ((exps 1 p.s).map (pad 1)).getD k [] = pad 1 ((exps 1 p.s).getD k []) := by simp [hk']
        rw [e, h1]
        rfl
      have hrl : ((exps 1 p.s).map (pad 1)).length = V.length := by simp; omega
      obtain ⟨R, hR⟩ : ∃ R, (exps 1 p.s).map (pad 1) = R := ⟨_, rfl⟩
      rw [hR] at hsix hrow2 hrl
      have VG2 := Lib.hid (show valsI p = some R by rw [VG.out, hR])
      have HSIX := Lib.hid hsix
      have HROW := Lib.hid hrow2
      have HRL := Lib.hid hrl
      have hV41 : V.length ≤ 41 := by omega
      have U0 := Lib.hid (uni0_ok V)
      have HNN := Lib.hid hn
      clear hg hn hcp hok hbb hrow hevl hel hsix hrow2 hrl hR VG hV
      go_enter Try.func71, Try.ntmps71
      go_wp2_with fail
      go_at_call 83
      generalize hw1 : World.alloc w _ = w1
      obtain ⟨x0, x1, x2, xs, xb⟩ := box3 hw1
      clear hw1
      refine (HC.out w1 xb).mono ?_
      rintro e w2 ⟨hb2, hpost⟩
      rw [VG2.out] at hpost
      simp only at hpost
      obtain ⟨A3, c3, rfl, hown2⟩ := hpost
      have y0' := (hb2.cell (p := ⟨w.heap.size, 0, none⟩) (by simp only []; omega)).trans x0
      rw [HNN.out] at y0'
      have y0 := cell_kept y0'
      have HB2 := Lib.hid (xb.trans (hb2.mono (show w.heap.size ≤ w1.heap.size by omega)))
      have hs2 : w.heap.size ≤ w2.heap.size := HB2.out.size
      have OW2 := Lib.hid hown2
      have hRlen := HRL.out
      rw [hRlen]
      clear x0 x1 x2 xs xb hb2 hown2 y0' hRlen
      go_wp2
      generalize hw3 : World.alloc w2 _ = w3
      have hb3 : Below w2.heap.size w2 w3 := by rw [← hw3]; exact (Below.refl _ _).alloc (Nat.le_refl _) _
      have HB3 := Lib.hid hb3
      clear hw3 hb3 y0
      go_loopw [6, 25] (fun ov iv wr => ∃ (k n : Nat) (A4 : Option Addr) (c4 : Nat), k ≤ V.length ∧ iv = .int .i64 k ∧ ov = .slice A4 n c4 ∧ n = (uniK [] V k).length ∧ (uniK [] V k = [] → A4 = none ∧ c4 = 0) ∧ wr.ownsRow w2.heap.size 3 1 (.slice A4 n c4) n ((uniK [] V k).map I) ∧ Below w2.heap.size w2 wr) (fun _ i _ => V.length - (intOf i).toNat)
      case atStart => exact ⟨0, 0, none, 0, by omega, rfl, rfl, rfl, fun _ => ⟨rfl, rfl⟩, World.ownsRow_nil _ _ _ _, HB3.out⟩
      case round =>
        obtain ⟨k, n, A4, c4, hk, rfl, rfl, hn, hnil, hown, hbel⟩ := hrel
        have OWN := Lib.hid hown
        have BEL := Lib.hid hbel
        have HN := Lib.hid hn
        have hs : w2.heap.size ≤ wr.heap.size := hbel.size
        by_cases hlt : k < V.length
        · obtain ⟨g, rfl, hgs, d0, d1, d2, d3, d4, d5⟩ := six_cells HSIX.out rfl (own_below OW2.out hbel) (k := k) (by rw [HRL.out]; exact hlt)
          rw [HROW.out k hlt] at d0
          obtain ⟨ok1, ok2, _⟩ := U0.out k (by omega)
          have SUC := Lib.hid (uniK_succ (a := []) hlt)
          obtain ⟨e, he⟩ : ∃ e, V.getD k 0 = e := ⟨_, rfl⟩
          rw [he] at SUC d0
          generalize (R.getD k []).getD 1 0 = a1 at d1
          generalize (R.getD k []).getD 2 0 = a2 at d2
          generalize (R.getD k []).getD 3 0 = a3 at d3
          generalize (R.getD k []).getD 4 0 = a4 at d4
          generalize (R.getD k []).getD 5 0 = a5 at d5
          have hW := fun (W : World) (hb : Below wr.heap.size wr W) => with_any W.heap.size A4 c4 (uniK [] V k) e W (by omega) ok1 hnil (Nat.le_refl _) (by
            have h := own_below OWN.out hb
            rw [HN.out] at h
            exact Rd.of_own h)
          rw [← hn] at hW
          have HW := Lib.hid hW
          have HS := Lib.hid hs
          have ik : (k : Int) < (V.length : Int) := by omega
          clear hW ok1 ok2 hn hnil hown hbel he
          go_wp2_with fail
          go_at_call 67
          generalize hw5 : World.alloc wr _ = w5
          have hb5 : Below wr.heap.size wr w5 := by rw [← hw5]; exact (Below.refl _ _).alloc (Nat.le_refl _) _
          clear hw5
          refine (HW.out w5 hb5).mono ?_
          rintro e' w6 ⟨A5, c5, rfl, hown5, hb6⟩
          have OW5 := Lib.hid hown5
          have HB6 := Lib.hid (BEL.out.trans ((hb5.trans (hb6.mono hb5.size)).mono HS.out))
          have hs5 : w2.heap.size ≤ w5.heap.size := Nat.le_trans HS.out hb5.size
          clear hown5 hb6 hb5
          go_wp2
          go_roundw
          case rel =>
            refine ⟨k + 1, (putI (uniK [] V k) e).length, A5, c5, by omega, by go_num, rfl, by rw [SUC.out], fun h => ?_, ?_, HB6.out⟩
            · rw [SUC.out] at h
              have := mem_putI (uniK [] V k) e
              rw [h] at this
              simp at this
            · rw [SUC.out]
              exact OW5.out.base hs5
          case measure => simp [intOf]; omega
        · have ek : k = V.length := by omega
          subst ek
          rw [uniK_end] at hn
          subst hn
          have HS := Lib.hid hs
          clear hbel hown hnil hs
          go_wp2
          go_ret2
          refine ⟨A4, c4, by rw [E.out]; rfl, ?_, HB2.out.trans (BEL.out.mono hs2)⟩
          have h := OWN.out
          rw [uniK_end] at h
          exact own_base h hs2
end Go.Proofs.Ytbbjgcagkmlngac
/- The needed part of a chain, by both. -/
namespace Go.Proofs.Ytbbjgcagkmlngac
open Go.RowKit

/-- The two cells of step k of an own row. -/
theorem OwS.atQ {w : World} {B : Nat} {A : Option Addr} {c : Nat} {s : List (Int × Int)} (h : OwS w B (.slice A s.length c) s) {k : Nat} (hk : k < s.length) :
    ∃ g, A = some ⟨g, 0, none⟩ ∧ B ≤ g ∧ g < w.heap.size ∧ w.cell? ⟨g, k * 2, none⟩ = some (.int .i64 (s.getD k (0, 0)).1) ∧ w.cell? ⟨g, k * 2 + 1, none⟩ = some (.int .i64 (s.getD k (0, 0)).2) := by
  obtain ⟨g, rfl, hB, hg, hc, _⟩ := own_at h (by omega)
  obtain ⟨f1, f2⟩ := fl_at hk
  have e : s.getD k (0, 0) = s[k] := by simp [hk]
  exact ⟨g, rfl, hB, hg, by rw [hc _ (by omega), f1, e], by rw [hc _ (by omega), f2, e]⟩
theorem nd_impl (l : List Int) : cpL (trimR (chP l)) = ndL l ∧ cpG (trimR (chP l)) = chG l := by
  cases hg : chG l with
  | true => obtain ⟨h1, h2⟩ := trim_chain hg; exact ⟨h2, h1⟩
  | false =>
    have hz : good zPl = false := rfl
    rw [chP_false hg, trimR_bad hz]
    have h2 : cpG zeroP = false := rfl
    exact ⟨by rw [cpL_false h2, ndL_false hg], h2⟩

set_option maxRecDepth 100000 in
set_option maxHeartbeats 2000000 in
theorem implNeed_any (B : Nat) (A : Option Addr) (c : Nat) (l : List Int) (w : World) (hB : B ≤ w.heap.size) (hl : l.length ≤ 1048576) (hcap : l.length ≤ c) (hr : Rd w B 1 A l.length (l.map I)) :
    Calls Try.prog 46 #[.slice A l.length c] w fun e w' =>
      ∃ A' c', e = .returned (.tuple #[.slice A' (ndL l).length c', .bool (chG l)]) ∧ OwI w' w.heap.size (.slice A' (ndL l).length c') (ndL l) ∧ Below w.heap.size w w' := by
  have hC := implChainPlan_any B A c l w hB hl hcap hr
  obtain ⟨e1, e2⟩ := nd_impl l
  have hps := chP_s l
  have hpo := chP_o l
  have htl := trimR_len (chP l)
  obtain ⟨P, hP⟩ : ∃ P, chP l = P := ⟨_, rfl⟩
  rw [hP] at hC hps hpo htl e1 e2
  obtain ⟨gd, hgd⟩ : ∃ g, chG l = g := ⟨_, rfl⟩
  rw [hgd] at hC e2 ⊢
  obtain ⟨T, hT⟩ : ∃ T, trimR P = T := ⟨_, rfl⟩
  rw [hT] at e1 e2 htl
  obtain ⟨ht1, ht2⟩ := htl
  have hTr := fun (W : World) B1 B2 d1 d2 hr2 => implTrim_any W.heap.size B1 B2 d1 d2 P W (Nat.le_refl _) (by omega) (by omega) hr2
  have hCp := fun (W : World) B1 B2 d1 d2 hr2 => implCp_any W.heap.size B1 B2 d1 d2 T W (Nat.le_refl _) (by omega) (by omega) hr2
  rw [hT] at hTr
  rw [e1, e2] at hCp
  obtain ⟨g2, hg2⟩ : ∃ g, good P = g := ⟨_, rfl⟩
  rw [hg2] at hTr
  have HC := Lib.hid hC
  have HTR := Lib.hid hTr
  have HCP := Lib.hid hCp
  clear hC hTr hCp e1 e2 hP hgd hT hg2 hr
  go_enter Try.func46, Try.ntmps46
  go_wp2_with fail
  go_at_call 33
  refine HC.out.mono ?_
  rintro e w2 ⟨R1, R2, v1, v2, rfl, hown2, hb2⟩
  have HB2 := Lib.hid hb2
  have hs2 : w.heap.size ≤ w2.heap.size := hb2.size
  clear hb2
  go_wp2_with fail
  go_at_call 70
  generalize hw3 : World.alloc w2 _ = w3
  have hb3 : Below w2.heap.size w2 w3 := by rw [← hw3]; exact (Below.refl _ _).alloc (Nat.le_refl _) _
  clear hw3
  have HB3 := Lib.hid (HB2.out.trans (hb3.mono hs2))
  have hs3 : w.heap.size ≤ w3.heap.size := HB3.out.size
  refine (HTR.out w3 R1 R2 v1 v2 (hown2.below hb3).rd).mono ?_
  clear hown2 hb3
  rintro e w4 ⟨E1, E2, f1, f2, rfl, hown4, hb4⟩
  have HB4 := Lib.hid (HB3.out.trans (hb4.mono hs3))
  have hs4 : w.heap.size ≤ w4.heap.size := HB4.out.size
  clear hb4
  go_wp2_with fail
  go_at_call 71
  generalize hw5 : World.alloc w4 _ = w5
  have hb5 : Below w4.heap.size w4 w5 := by rw [← hw5]; exact (Below.refl _ _).alloc (Nat.le_refl _) _
  clear hw5
  have HB5 := Lib.hid (HB4.out.trans (hb5.mono hs4))
  have hs5 : w.heap.size ≤ w5.heap.size := HB5.out.size
  refine (HCP.out w5 E1 E2 f1 f2 (hown4.below hb5).rd).mono ?_
  clear hown4 hb5
  rintro e w6 ⟨A6, c6, rfl, hown6, hb6⟩
  have OW6 := Lib.hid (hown6.base hs5)
  have HB6 := Lib.hid (HB5.out.trans (hb6.mono hs5))
  clear hown6 hb6
  go_wp2
  go_ret2
  exact ⟨A6, c6, rfl, OW6.out, HB6.out⟩

theorem ndX_hit {l : List Int} {j i : Nat} (hi : i < (stepsK l l.length).length) (hij : (stepsK l l.length).length - 1 - j = i) (h : hasI (ndX l j) ((i : Int) + 1) = true) :
    ndX l (j + 1) = putI (putI (ndX l j) ((stepsK l l.length).getD i (0, 0)).1) ((stepsK l l.length).getD i (0, 0)).2 := by
  rw [hasI_ndX, show (i : Int) + 1 = ((1 : Nat) : Int) + (i : Int) by omega] at h
  unfold ndX
  rw [need_hit hi hij h, uni_snoc2]
  have e : (stepsK l l.length).getD i (0, 0) = (stepsK l l.length)[i] := by simp [hi]
  rw [e]
theorem ndX_miss {l : List Int} {j i : Nat} (hij : (stepsK l l.length).length - 1 - j = i) (h : hasI (ndX l j) ((i : Int) + 1) = false) : ndX l (j + 1) = ndX l j := by
  rw [hasI_ndX, show (i : Int) + 1 = ((1 : Nat) : Int) + (i : Int) by omega] at h
  unfold ndX
  rw [need_miss hij h]

set_option maxRecDepth 100000 in
set_option maxHeartbeats 4000000 in
theorem specNeed_any (B : Nat) (A : Option Addr) (c : Nat) (l : List Int) (w : World) (hB : B ≤ w.heap.size) (hl : l.length ≤ 1048576) (_hcap : l.length ≤ c) (hr : Rd w B 1 A l.length (l.map I)) :
    Calls Try.prog 45 #[.slice A l.length c] w fun e w' =>
      ∃ A' c', e = .returned (.tuple #[.slice A' (ndL l).length c', .bool (chG l)]) ∧ OwI w' w.heap.size (.slice A' (ndL l).length c') (ndL l) ∧ Below w.heap.size w w' := by
  have hS := chGood_any B A c l w hl hB hr
  have H := Lib.hid hr
  clear hr
  cases hg : chG l with
  | false =>
    rw [hg] at hS
    have HS := Lib.hid hS
    have E := Lib.hid (ndL_false hg)
    clear hS hg
    go_enter Try.func45, Try.ntmps45
    go_wp2_with (go_at_call 49; refine HS.out.mono ?_; rintro e w2 ⟨rfl, hb2⟩)
    go_ret2
    exact ⟨none, 0, by rw [E.out]; rfl, by rw [E.out]; exact OwI.nil _ _, hb2⟩
  | true =>
    rw [hg] at hS
    have HS := Lib.hid hS
    have hch := chG_chn hg
    have hl1 := hch.pos
    have hl2 := hch.most
    have hST := fun (W : World) (hb : Below w.heap.size w W) => chSteps_any B A c l W hg (by have := hb.size; omega) (H.out.below' hb hB)
    have hSl : (stepsK l l.length).length = l.length - 1 := stepsK_length _ _
    have HIT := Lib.hid (fun (j i : Nat) => ndX_hit (l := l) (j := j) (i := i))
    have MISS := Lib.hid (fun (j i : Nat) => ndX_miss (l := l) (j := j) (i := i))
    have XR := Lib.hid (fun j => ndX_rng hg (j := j))
    have XE := Lib.hid (ndL_eq hg)
    obtain ⟨S, hSe⟩ : ∃ S, stepsK l l.length = S := ⟨_, rfl⟩
    rw [hSe] at hST hSl
    have HIT2 := HIT.out
    have MISS2 := MISS.out
    rw [hSe] at HIT2 MISS2
    have HI := Lib.hid HIT2
    have MI := Lib.hid MISS2
    have HST := Lib.hid hST
    obtain ⟨N, hN⟩ : ∃ N, S.length = N := ⟨_, rfl⟩
    have hlN : l.length = N + 1 := by omega
    have HLN := Lib.hid hlN
    have HNN := Lib.hid hN
    have hN40 : N ≤ 40 := by omega
    have hsub : IntKind.i64.wrap ((l.length : Int) - 1) = (N : Int) := by rw [IntWalk.i64_in _ (by omega)]; omega
    clear hS hg hch hST hSl HIT MISS HIT2 MISS2 hSe hN hlN
    obtain ⟨b, off, rfl, hbB, hc⟩ := H.out.cells (by omega)
    have HCE := Lib.hid hc
    clear hc
    go_enter Try.func45, Try.ntmps45
    go_wp2_with (first
      | (go_at_call 49; refine HS.out.mono ?_; rintro e w2 ⟨rfl, hb2⟩; have HB2 := Lib.hid hb2; have hs2 : w.heap.size ≤ w2.heap.size := hb2.size; clear hb2)
      | (go_at_call 50; refine (HST.out w2 HB2.out).mono ?_; rintro e w3 ⟨A3, c3, rfl, hown3, hb3⟩; have OW3 := Lib.hid hown3; have HB3 := Lib.hid (HB2.out.trans (hb3.mono hs2)); have hs3 : w2.heap.size ≤ w3.heap.size := hb3.size; clear hown3 hb3))
    generalize hw4 : World.alloc w3 _ = w4
    have hone : w4.ownsRow w3.heap.size 3 1 (.slice (some ⟨w3.heap.size, 0, none⟩) 1 1) 1 [I (N : Int)] := by rw [← hw4]; exact one_own _ (Nat.le_refl _)
    have hb4 : Below w3.heap.size w3 w4 := by rw [← hw4]; exact (Below.refl _ _).alloc (Nat.le_refl _) _
    clear hw4
    have ONE := Lib.hid hone
    have HB4 := Lib.hid hb4
    clear hone hb4
    go_loopw [5, 6] (fun nv kv' wr => ∃ (j n : Nat) (A5 : Option Addr) (c5 : Nat), j ≤ N ∧ kv' = .int .i64 ((N - j : Nat) : Int) ∧ nv = .slice A5 n c5 ∧ n = (ndX l j).length ∧ wr.ownsRow w3.heap.size 3 1 (.slice A5 n c5) n ((ndX l j).map I) ∧ Below w3.heap.size w3 wr) (fun _ kv' _ => (intOf kv').toNat)
    case atStart =>
      refine ⟨0, 1, _, _, by omega, rfl, rfl, rfl, ?_, HB4.out⟩
      have e : ndX l 0 = [(N : Int)] := by
        unfold ndX ndO
        simp only [needI]
        rw [HLN.out, show ((N + 1 : Nat) : Int) - 1 = (N : Int) by omega]
        rfl
      rw [e]
      exact ONE.out
    case round =>
      obtain ⟨j, n, A5, c5, hj, rfl, rfl, hn, hown, hbel⟩ := hrel
      have OWN := Lib.hid hown
      have BEL := Lib.hid hbel
      have HN := Lib.hid hn
      have hs : w3.heap.size ≤ wr.heap.size := hbel.size
      have hxl := ndX_le l j
      rw [← hn] at hxl
      have hxa := ndX_asc l j
      by_cases hlt : j < N
      · obtain ⟨i, hi⟩ : ∃ i, N - j = i + 1 := ⟨N - j - 1, by omega⟩
        have hiS : i < S.length := by have := HNN.out; omega
        have hij : S.length - 1 - j = i := by have := HNN.out; omega
        obtain ⟨g, hA3, _, hgs, ca, cb⟩ := OwS.atQ (OW3.out.below hbel) hiS
        have h1 := HI.out j i hiS hij
        have h2 := MI.out j i hij
        obtain ⟨x, hx⟩ : ∃ x, (S.getD i (0, 0)).1 = x := ⟨_, rfl⟩
        obtain ⟨y, hy⟩ : ∃ y, (S.getD i (0, 0)).2 = y := ⟨_, rfl⟩
        rw [hx] at ca h1
        rw [hy] at cb h1
        have hH := l1Has_any wr.heap.size A5 c5 (ndX l j) ((i : Int) + 1) wr (by omega) (by have h := OWN.out; rw [HN.out] at h; exact Rd.of_own h)
        rw [← hn] at hH
        have hnj1 : N - (j + 1) = i := by omega
        have HNJ := Lib.hid hnj1
        have e5 : ((N - j : Nat) : Int) = (i : Int) + 1 := by omega
        have ipos : (0 : Int) < (i : Int) + 1 := by omega
        have hw0 : IntKind.i64.wrap (i : Int) = (i : Int) := IntWalk.i64_in _ (by omega)
        have iS : (i : Int) < (S.length : Int) := by omega
        rw [e5]
        subst hA3
        cases hh : hasI (ndX l j) ((i : Int) + 1) with
        | false =>
          rw [hh] at hH
          have HH := Lib.hid hH
          have E := Lib.hid (h2 hh)
          clear hH h1 h2 hh hx hy hi hij hown hbel hn hnj1 e5 ca cb
          go_wp2_with (go_at_call 64; refine HH.out.mono ?_; rintro e w5 ⟨rfl, rfl⟩)
          go_roundw
          case rel => exact ⟨j + 1, n, A5, c5, by omega, by rw [HNJ.out], rfl, by rw [E.out]; exact HN.out, by rw [E.out]; exact OWN.out, BEL.out⟩
          case measure => simp [intOf]
        | true =>
          rw [hh] at hH
          have HH := Lib.hid hH
          have E := Lib.hid (h1 hh)
          have hP1 := fun (W : World) (hb : Below wr.heap.size wr W) => l1PutO_any w3.heap.size A5 c5 (ndX l j) x W (by omega) hxa (by have := hb.size; omega) (by
            have h := own_below OWN.out hb
            rw [HN.out] at h
            exact h)
          rw [← hn] at hP1
          have hpl := putI_le (ndX l j) x
          have hP2 := fun (W : World) A6 c6 hB6 how => l1PutO_any w3.heap.size A6 c6 (putI (ndX l j) x) y W (by omega) (putI_asc hxa x) hB6 how
          have HP1 := Lib.hid hP1
          have HP2 := Lib.hid hP2
          have FS := Lib.hid (show ∀ x', Below wr.heap.size wr x' → x'.cell? ⟨g, i * 2, none⟩ = some (.int .i64 x) ∧ x'.cell? ⟨g, i * 2 + 1, none⟩ = some (.int .i64 y) from fun x' hx' =>
            ⟨(hx'.cell (p := ⟨g, i * 2, none⟩) (by simp only []; omega)).trans ca, (hx'.cell (p := ⟨g, i * 2 + 1, none⟩) (by simp only []; omega)).trans cb⟩)
          have S0 := Lib.hid (show Below wr.heap.size wr wr.drew from (Below.refl _ _).drew)
          clear hH h1 h2 hh hx hy hi hij hown hbel hn hnj1 e5 hP1 hP2 hxa ca cb
          go_wp2_with (go_at_call 64; refine HH.out.mono ?_; rintro e w5 ⟨rfl, rfl⟩)
          refine wp_region_T (fun x : World => Below wr.heap.size wr x) [0, 1, 2, 3, 4, 5, 6, 8, 9, 10, 11, 12, 13, 15] [6, 13] (.lp 0 (.lp 1 (.lp 2 (.lp 3 (.lp 4 (.lp 5 (.lp 8 (.lp 9 (.lp 10 (.lp 11 (.lp 12 (.ls 6 (.ls 13 (.hv 7 (.hv 14 (.lp 15 (.done))))))))))))))))) (by kernel_rfl) (by kernel_rfl) ?_
          (repeat (refine T_lp rfl (fun K hK => ?_); go_simp; refine hK _ ?_; clear hK K))
          refine T_ls1 (v := .int .i64 x) rfl rfl S0.out (fun x hx => (by obtain ⟨h0, h1⟩ := FS.out x hx; go_simp)) (fun K hK => ?_)
          (go_simp; refine hK _ ?_; clear hK K)
          refine T_ls1 (v := .int .i64 y) rfl rfl S0.out (fun x hx => (by obtain ⟨h0, h1⟩ := FS.out x hx; go_simp)) (fun K hK => ?_)
          (go_simp; refine hK _ ?_; clear hK K)
          refine T_hvS rfl (fun K hK => ?_)
          go_simp
          go_at_call 65
          refine (HP1.out wr.drew S0.out).mono ?_
          rintro e w6 ⟨A6, c6, rfl, hown6, hb6⟩
          have hb6' : Below wr.heap.size wr w6 := S0.out.trans (hb6.mono (by simp))
          have OW6 := Lib.hid hown6
          have HB6 := Lib.hid hb6'
          clear hown6 hb6
          go_simp
          refine hK _ _ hb6' ?_
          clear hK K hb6'
          (refine T_hv rfl (by kernel_rfl) (fun K hK => ?_); go_simp)
          go_at_call 65
          refine (HP2.out w6 A6 c6 (by have := HB6.out.size; omega) OW6.out).mono ?_
          rintro e w7 ⟨A7, c7, rfl, hown7, hb7⟩
          have OW7 := Lib.hid hown7
          have HB7 := Lib.hid (BEL.out.trans ((HB6.out.trans (hb7.mono HB6.out.size)).mono hs))
          clear hown7 hb7
          (go_simp; refine hK _ _ ?_; clear hK K)
          (repeat (first | (refine T_lp rfl (fun K hK => ?_); go_simp; refine hK _ ?_; clear hK K) | (refine T_ls rfl rfl (fun K hK => ?_); go_simp; refine hK _ ?_; clear hK K)))
          refine T_done ?_
          go_wp2
          go_roundw
          case rel => exact ⟨j + 1, (putI (putI (ndX l j) x) y).length, A7, c7, by omega, by rw [HNJ.out], rfl, by rw [E.out], by rw [E.out]; exact OW7.out, HB7.out⟩
          case measure => simp [intOf]
      · have ej : j = N := by omega
        subst ej
        have hx2 : ndX l j = ndX l (l.length - 1) := by rw [HLN.out]; rfl
        have hxr : ∀ x ∈ ndX l j, 0 ≤ x ∧ x < (l.length : Int) := XR.out j (by have := HLN.out; omega)
        have hxe : (ndX l j).map (fun x => l.getD x.toNat 0) = ndL l := by rw [hx2]; exact XE.out
        obtain ⟨X, hX⟩ : ∃ X, ndX l j = X := ⟨_, rfl⟩
        rw [hX] at hn hxr hxe hown
        have XRR := Lib.hid hxr
        have XEE := Lib.hid hxe
        have OWX := Lib.hid hown
        have HB5 := Lib.hid (HB3.out.trans (hbel.mono (show w.heap.size ≤ w3.heap.size by omega)))
        have hX100 : X.length ≤ 100 := by omega
        subst hn
        have hz : ((j - j : Nat) : Int) = 0 := by omega
        rw [hz]
        clear hx2 hxr hxe hX hown hbel hxa hz OWN HN
        obtain ⟨wo, rfl⟩ : ∃ wo, wo = wr := ⟨wr, rfl⟩
        go_wp2
        go_loopw [7, 46] (fun ov iv wq => ∃ (k : Nat) (A6 : Option Addr) (c6 : Nat), k ≤ X.length ∧ iv = .int .i64 k ∧ ov = .slice A6 k c6 ∧ wq.ownsRow wo.heap.size 3 1 (.slice A6 k c6) k (((X.take k).map fun x => l.getD x.toNat 0).map I) ∧ Below wo.heap.size wo wq) (fun _ i _ => X.length - (intOf i).toNat)
        case atStart => exact ⟨0, none, 0, by omega, rfl, rfl, World.ownsRow_nil _ _ _ _, Below.refl _ _⟩
        case round =>
          obtain ⟨k, A6, c6, hk, rfl, rfl, hown6, hbel6⟩ := hrel
          have OW6 := Lib.hid hown6
          have BE6 := Lib.hid hbel6
          have hs6 : wo.heap.size ≤ wr.heap.size := hbel6.size
          have HBT := Lib.hid (HB5.out.trans (hbel6.mono (show w.heap.size ≤ wo.heap.size by have := HB5.out.size; omega)))
          by_cases hlt2 : k < X.length
          · have hox := own_below OWX.out hbel6
            obtain ⟨g, rfl, _, hgs, hcx, _⟩ := own_at hox (by omega)
            have cx : wr.cell? ⟨g, k, none⟩ = some (.int .i64 (X.getD k 0)) := by
              rw [hcx k (by omega)]
              simp [I, hlt2]
            obtain ⟨rx1, rx2⟩ := XRR.out _ (mem_getD hlt2)
            obtain ⟨v, hv⟩ : ∃ v : Nat, X.getD k 0 = v := ⟨(X.getD k 0).toNat, by omega⟩
            rw [hv] at cx
            have cl := (HBT.out.cell (p := ⟨b, off + v, none⟩) (by simp only []; omega)).trans (HCE.out v (by omega))
            have iv : (v : Int) < (l.length : Int) := by omega
            have ikX : (k : Int) < (X.length : Int) := by omega
            have SUC := Lib.hid (show ((X.take (k + 1)).map fun x => l.getD x.toNat 0).map I = ((X.take k).map fun x => l.getD x.toNat 0).map I ++ [I (l.getD v 0)] by
              rw [take_succ_getD hlt2, List.map_append, List.map_append, hv]
              rfl)
            obtain ⟨z, hz⟩ : ∃ z, l.getD v 0 = z := ⟨_, rfl⟩
            rw [hz] at cl SUC
            clear hox hcx hv hz hown6 hbel6 rx1 rx2
            go_wp2_with (at_builtin; refine list_step (fun K hK => ?_); refine step_app1 Try.underlying22 info_int rfl (by omega) rfl (.tmp 50) (.tmp 55) rfl wo.heap.size k _ (((X.take k).map fun x => l.getD x.toNat 0).map I) rfl (World.ownsRow.alloc OW6.out _) wr.heap.size 1 (I z) rfl (by rw [World.cell?_alloc_at _ _ _ _ rfl]; rfl) rfl (by omega) (by simp; omega) ?_; intro A8 c8 w8 hown8 hg8 hbel8; go_simp; refine hK _ _ ?_; clear hK K)
            go_roundw
            case rel =>
              refine ⟨k + 1, A8, c8, by omega, by go_num, rfl, ?_, (BE6.out.alloc hs6 _).trans hbel8⟩
              rw [SUC.out]
              exact hown8
            case measure => simp [intOf]; omega
          · have ek : k = X.length := by omega
            subst ek
            clear hown6 hbel6
            go_wp2
            go_ret2
            refine ⟨A6, c6, ?_, ?_, HBT.out⟩
            · rw [← XEE.out, List.length_map]; rfl
            · have h := OW6.out
              rw [List.take_length, XEE.out] at h
              have hl3 : (ndL l).length = X.length := by rw [← XEE.out]; simp
              unfold OwI
              rw [hl3]
              exact own_base h (by have := HB5.out.size; omega)
end Go.Proofs.Ytbbjgcagkmlngac
