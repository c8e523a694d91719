/- Joined: Qt Qp Qu Qv Qw Ra Rb Rc Hu Cs Hv. -/
import Derived.Test.YtppahohakiidmaaPB2
import Derived.Test.YtppahohakiidmaaPB0
/- A number put into a rising list. -/
namespace Go.Proofs.Ytppahohakiidmaa
open Go.RowKit

theorem insert_any (B0 : Nat) (A : Option Addr) (c n i : Nat) (x : Int) (vb vc : Nat) (l : List Int) (w : World) (hln : l.length = n) (hi : i ≤ n) (hn : n ≤ 1000) (hB : B0 ≤ w.heap.size)
    (hown : w.ownsRow B0 3 1 (.slice A n c) n (l.map I)) (hv : w.heap[vb]? = some (.cells #[I x] 3 (0, 0))) (hne : (Value.slice A n c).ownBlock ≠ some vb) :
    Calls Try.prog 85 #[.slice A n c, .int .i64 i, .slice (some ⟨vb, 0, none⟩) 1 vc] w fun e w' =>
      ∃ A' c', e = .returned (.slice A' (n + 1) c') ∧ w'.ownsRow B0 3 1 (.slice A' (n + 1) c') (n + 1) ((insA l i x).map I) ∧ Below B0 w w' := by
  by_cases h : i = n
  · subst h
    exact insert_end B0 A c i x vb vc l w hln hn hB hown (by unfold World.cell?; rw [hv]; simp)
  · obtain ⟨g, rfl, _, _, _, _⟩ := own_at hown (by omega)
    by_cases hc : n + 1 ≤ c
    · exact insert_room B0 g c n i x vb vc l w hln (by omega) hn hc hown hv (fun h => hne (by rw [h]; rfl))
    · exact insert_grow B0 g c n i x vb vc l w hln (by omega) hn (by omega) hB hown hv

/-- The list with x at its place. -/
def putI (l : List Int) (x : Int) : List Int := if x ∈ l then l else insA l (cnt l x) x
theorem putI_has {l : List Int} {x : Int} (h : x ∈ l) : putI l x = l := by unfold putI; rw [if_pos h]
theorem putI_new {l : List Int} {x : Int} (h : ¬ x ∈ l) : putI l x = insA l (cnt l x) x := by unfold putI; rw [if_neg h]
theorem cnt_le (l : List Int) (x : Int) : cnt l x ≤ l.length := List.countP_le_length
theorem putI_le (l : List Int) (x : Int) : (putI l x).length ≤ l.length + 1 := by
  unfold putI
  split
  · omega
  · rw [insA_length l x (cnt_le l x)]; omega
theorem insA_getD (l : List Int) {i : Nat} (x : Int) (hi : i ≤ l.length) (j : Nat) : (insA l i x).getD j 0 = if j < i then l.getD j 0 else if j = i then x else l.getD (j - 1) 0 := by
  unfold insA
  rw [List.getD_eq_getElem?_getD]
  by_cases h1 : j < i
  · rw [if_pos h1, List.getElem?_append_left (by simp; omega), List.getElem?_take, if_pos h1, List.getD_eq_getElem?_getD]
  · rw [if_neg h1, List.getElem?_append_right (by simp; omega)]
    have e : (List.take i l).length = i := by simp; omega
    rw [e]
    by_cases h2 : j = i
    · subst h2
      simp
    · rw [if_neg h2, show j - i = (j - i - 1) + 1 by omega, List.getElem?_cons_succ, List.getElem?_drop, List.getD_eq_getElem?_getD, show i + (j - i - 1) = j - 1 by omega]
/-- What lies before the place is less, what lies behind it greater. -/
theorem cnt_parts {l : List Int} (ha : Asc l) (x : Int) : (∀ t, t < cnt l x → l.getD t 0 < x) ∧ ∀ t, cnt l x ≤ t → t < l.length → x ≤ l.getD t 0 := by
  have key : ∀ n, n ≤ l.length → ∃ i, i ≤ n ∧ (∀ t, t < i → l.getD t 0 < x) ∧ ∀ t, i ≤ t → t < n → x ≤ l.getD t 0 := by
    intro n
    induction n with
    | zero => intro _; exact ⟨0, by omega, fun t h => absurd h (by omega), fun t _ h => absurd h (by omega)⟩
    | succ n ih =>
      intro hn
      obtain ⟨i, h1, h2, h3⟩ := ih (by omega)
      by_cases hi : i = n
      · by_cases hx : l.getD n 0 < x
        · refine ⟨n + 1, by omega, fun t ht => ?_, fun t h h' => absurd h (by omega)⟩
          rcases Nat.lt_or_eq_of_le (Nat.le_of_lt_succ ht) with h | rfl
          · exact h2 t (by omega)
          · exact hx
        · refine ⟨i, by omega, h2, fun t h h' => ?_⟩
          have : t = n := by omega
          subst this
          omega
      · refine ⟨i, by omega, h2, fun t h h' => ?_⟩
        rcases Nat.lt_or_eq_of_le (Nat.le_of_lt_succ h') with h'' | rfl
        · exact h3 t h h''
        · have := h3 i (Nat.le_refl _) (by omega)
          have := ha i t (by omega) (by omega)
          omega
  obtain ⟨i, h1, h2, h3⟩ := key l.length (Nat.le_refl _)
  rw [cnt_at h1 h2 h3]
  exact ⟨h2, h3⟩
theorem mem_getD {l : List Int} {t : Nat} (h : t < l.length) : l.getD t 0 ∈ l := by
  have e : l.getD t 0 = l[t] := by simp [h]
  rw [e]
  exact List.getElem_mem h
theorem putI_asc {l : List Int} (ha : Asc l) (x : Int) : Asc (putI l x) := by
  by_cases hx : x ∈ l
  · rw [putI_has hx]; exact ha
  · rw [putI_new hx]
    obtain ⟨h1, h2⟩ := cnt_parts ha x
    have hc := cnt_le l x
    intro i j hij hj
    rw [insA_length l x hc] at hj
    rw [insA_getD l x hc, insA_getD l x hc]
    have h3 : ∀ t, cnt l x ≤ t → t < l.length → x < l.getD t 0 := fun t h h' => by
      have := h2 t h h'
      rcases Int.lt_or_eq_of_le this with h4 | h4
      · exact h4
      · exact absurd (h4 ▸ mem_getD h') hx
    by_cases c1 : i < cnt l x
    · rw [if_pos c1]
      by_cases c2 : j < cnt l x
      · rw [if_pos c2]; exact ha i j hij (by omega)
      · rw [if_neg c2]
        by_cases c3 : j = cnt l x
        · rw [if_pos c3]; exact h1 i c1
        · rw [if_neg c3]; exact ha i (j - 1) (by omega) (by omega)
    · rw [if_neg c1, if_neg (by omega : ¬ j < cnt l x), if_neg (by omega : ¬ j = cnt l x)]
      by_cases c3 : i = cnt l x
      · rw [if_pos c3]; exact h3 (j - 1) (by omega) (by omega)
      · rw [if_neg c3]; exact ha (i - 1) (j - 1) (by omega) (by omega)

set_option maxRecDepth 100000 in
set_option maxHeartbeats 2000000 in
theorem with_any (B : Nat) (A : Option Addr) (c : Nat) (l : List Int) (x : Int) (w : World) (hm : l.length ≤ 500) (ha : Asc l) (hA : l = [] → A = none ∧ c = 0) (hB : B ≤ w.heap.size) (hr : Rd w B 1 A l.length (l.map I)) :
    Calls Try.prog 65 #[.slice A l.length c, .int .i64 x] w fun e w' =>
      ∃ A' c', e = .returned (.slice A' (putI l x).length c') ∧ OwI w' w.heap.size (.slice A' (putI l x).length c') (putI l x) ∧ Below w.heap.size w w' := by
  have hcl : Calls Try.prog 83 #[.slice A l.length c] w fun e w' => ∃ A' c', e = .returned (.slice A' l.length c') ∧ OwI w' w.heap.size (.slice A' l.length c') l ∧ Below w.heap.size w w' := by
    by_cases h0 : 0 < l.length
    · exact cloneA_any B A c l w (by omega) h0 hB hr
    · have hl : l = [] := List.eq_nil_of_length_eq_zero (by omega)
      obtain ⟨rfl, rfl⟩ := hA hl
      subst hl
      refine (cloneA_nil w).mono ?_
      rintro e w' ⟨rfl, rfl⟩
      exact ⟨none, 0, rfl, OwI.nil _ _, Below.refl _ _⟩
  have hF := fun (W : World) (hb : Below w.heap.size w W) => find_any B A c l x W (by omega) ha (hr.below' hb hB)
  have hcx := cnt_le l x
  obtain ⟨a, haa⟩ : ∃ a, cnt l x = a := ⟨_, rfl⟩
  rw [haa] at hF hcx
  have HCL := Lib.hid hcl
  have AA := Lib.hid haa
  clear hcl hr ha hA haa
  by_cases hx : x ∈ l
  · rw [decide_eq_true hx] at hF
    have P := Lib.hid (putI_has hx)
    have HF := Lib.hid hF
    clear hF hx
    go_enter Try.func65, Try.ntmps65
    go_wp2_with (first
      | (go_at_call 83; refine HCL.out.mono ?_; rintro e w2 ⟨A2, c2, rfl, hown2, hb2⟩; have OW2 := Lib.hid hown2; have HB2 := Lib.hid hb2; clear hown2 hb2)
      | (go_at_call 84; refine (HF.out w2 HB2.out).mono ?_; rintro e w3 ⟨rfl, ⟨nd, rfl⟩⟩))
    go_ret
    exact ⟨A2, c2, by rw [P.out]; rfl, by rw [P.out]; exact OwI.drewN OW2.out nd, bDrewN HB2.out nd⟩
  · rw [decide_eq_false hx] at hF
    have P := Lib.hid (putI_new hx)
    have HF := Lib.hid hF
    clear hF hx
    obtain ⟨N, hN⟩ : ∃ N, l.length = N := ⟨_, rfl⟩
    have HN := Lib.hid hN
    have hNb : N ≤ 500 := by omega
    have haN : a ≤ N := by omega
    have HCL' := HCL.out
    have HF' := HF.out
    rw [hN] at HCL' HF'
    rw [hN]
    have C1 := Lib.hid HCL'
    have F1 := Lib.hid HF'
    clear HCL' HF' HCL HF hN hm hcx
    go_enter Try.func65, Try.ntmps65
    go_wp2_with (first
      | (go_at_call 83; refine C1.out.mono ?_; rintro e w2 ⟨A2, c2, rfl, hown2, hb2⟩; have OW2 := Lib.hid (show w2.ownsRow w.heap.size 3 1 (.slice A2 N c2) N (l.map I) from (by have h := hown2; unfold OwI at h; rw [HN.out] at h; exact h)); have HB2 := Lib.hid hb2; have hs2 : w.heap.size ≤ w2.heap.size := hb2.size; clear hown2 hb2)
      | (go_at_call 84; refine (F1.out w2 HB2.out).mono ?_; rintro e w3 ⟨rfl, ⟨nd, rfl⟩⟩))
    go_at_call 85
    generalize hw4 : World.alloc _ _ = w4
    have hg4 : w4.heap[w2.heap.size]? = some (.cells #[I x] 3 (0, 0)) := by rw [← hw4]; exact Array.getElem?_push_size
    have hb4 : Below w2.heap.size w2 w4 := by rw [← hw4]; exact (bDrewN (Below.refl _ _) nd).alloc (Nat.le_refl _) _
    clear hw4
    have hown4 := own_below OW2.out hb4
    have hne : (Value.slice A2 N c2).ownBlock ≠ some w2.heap.size := fun h => by
      have := (own_block OW2.out _ h).2
      omega
    refine (insert_any w.heap.size A2 c2 N a x w2.heap.size 1 l w4 HN.out haN (by omega) (by have := hb4.size; omega) hown4 hg4 hne).mono ?_
    rintro e w5 ⟨A5, c5, rfl, hown5, hb5⟩
    have hpl : (putI l x).length = N + 1 := by rw [P.out, AA.out, insA_length l x (by have := HN.out; omega), HN.out]
    have HB5 := Lib.hid ((HB2.out.trans (hb4.mono hs2)).trans hb5)
    have OW5 := Lib.hid (show OwI w5 w.heap.size (.slice A5 (N + 1) c5) (putI l x) from (by unfold OwI; rw [hpl, P.out, AA.out]; exact hown5))
    have HPL := Lib.hid hpl
    clear hown5 hb5 hown4 hb4 hg4 hne hpl
    go_wp2
    go_ret
    exact ⟨A5, c5, by rw [HPL.out]; rfl, by rw [HPL.out]; exact OW5.out, HB5.out⟩
end Go.Proofs.Ytppahohakiidmaa
/- What is in both of two chains. -/
namespace Go.Proofs.Ytppahohakiidmaa
open Go.RowKit

theorem hasI_mem (l : List Int) (n : Int) : hasI l n = decide (n ∈ l) := by unfold hasI; exact List.contains_eq_mem n l
def metK (a b : List Int) (k : Nat) : List Int := (a.take k).filter fun n => hasI b n
def met (a b : List Int) : List Int := a.filter fun n => hasI b n
theorem metK_end (a b : List Int) : metK a b a.length = met a b := by unfold metK met; rw [List.take_length]
theorem metK_hit {a b : List Int} {k : Nat} (hk : k < a.length) (h : hasI b (a.getD k 0) = true) : metK a b (k + 1) = metK a b k ++ [a.getD k 0] := by
  unfold metK
  rw [take_succ_getD hk, List.filter_append]
  simp only [List.filter_cons, List.filter_nil, h]
  rfl
theorem metK_miss {a b : List Int} {k : Nat} (hk : k < a.length) (h : hasI b (a.getD k 0) = false) : metK a b (k + 1) = metK a b k := by
  unfold metK
  rw [take_succ_getD hk, List.filter_append]
  simp only [List.filter_cons, List.filter_nil, h]
  simp
theorem metK_le (a b : List Int) (k : Nat) : (metK a b k).length ≤ k := by
  unfold metK
  exact Nat.le_trans (List.length_filter_le _ _) (by simp; omega)
theorem met_le (a b : List Int) : (met a b).length ≤ a.length := List.length_filter_le _ _
def meG (a b : List Int) : Bool := (chG a && chG b) && chG (met a b)

end Go.Proofs.Ytppahohakiidmaa
/- A number put into a rising list, by the model. -/
namespace Go.Proofs.Ytppahohakiidmaa
open Go.RowKit

theorem Rd.drop {w : World} {B : Nat} {b off k : Nat} {l : List Int} (h : Rd w B 1 (some ⟨b, off, none⟩) l.length (l.map I)) (hk : k < l.length) : Rd w B 1 (some ⟨b, off + k, none⟩) (l.length - k) ((l.drop k).map I) := by
  refine ⟨by simp, fun _ => ?_⟩
  obtain ⟨b', off', e, hb, hc⟩ := h.2 (by omega)
  simp only [Option.some.injEq, Addr.mk.injEq, and_true] at e
  obtain ⟨rfl, rfl⟩ := e
  refine ⟨b, off + k, rfl, hb, fun j hj => ?_⟩
  rw [Nat.add_assoc, hc (k + j) (by omega), List.map_drop, List.getElem?_drop]
theorem put_below2 {B : Nat} {w : World} {o1 o2 : Obj} {w2 w3 : World} (hB : B ≤ w.heap.size) (h2 : Below B (w.alloc o1) w2) (h3 : Below B (w2.alloc o2) w3) : Below B w w3 := by
  have h1 : Below B w w2 := ((Below.refl _ _).alloc hB _).trans h2
  exact (h1.alloc (Nat.le_trans hB h1.size) _).trans h3

set_option maxRecDepth 100000 in
set_option maxHeartbeats 2000000 in
theorem l1PutN_any (B : Nat) (A : Option Addr) (c : Nat) (l : List Int) (x : Int) (w : World) (hm : l.length ≤ 1000) (ha : Asc l) (hx : ¬ x ∈ l) (hcap : l.length ≤ c) (hB : B ≤ w.heap.size) (hr : Rd w B 1 A l.length (l.map I)) :
    Calls Try.prog 82 #[.slice A l.length c, .int .i64 x] w fun e w' => ∃ A' c', e = .returned (.slice A' (putI l x).length c') ∧ OwI w' w.heap.size (.slice A' (putI l x).length c') (putI l x) ∧ Below w.heap.size w w' := by
  have H := Lib.hid hr
  obtain ⟨p1, p2⟩ := cnt_parts ha x
  have P1 := Lib.hid p1
  have P2 := Lib.hid p2
  have hcx := cnt_le l x
  have P := Lib.hid (putI_new hx)
  have hpl : (putI l x).length = l.length + 1 := by rw [P.out, insA_length l x hcx]
  have HPL := Lib.hid hpl
  have HX := Lib.hid hx
  obtain ⟨a, haa⟩ : ∃ a, cnt l x = a := ⟨_, rfl⟩
  rw [haa] at hcx
  have AA := Lib.hid haa
  have HAS := Lib.hid ha
  clear hr p1 p2 hpl hx haa ha
  have hbig : (l.length : Int) ≤ 1000 := by omega
  go_enter Try.func82, Try.ntmps82
  go_wp2
  go_loop [5] (fun i => ∃ k : Nat, k ≤ a ∧ i = .int .i64 k) (fun i => a - (intOf i).toNat)
  case atStart => exact ⟨0, by omega, rfl⟩
  case round =>
    obtain ⟨k, hk, rfl⟩ := hrel
    by_cases hka : k < a
    · obtain ⟨b, off, rfl, hb, hc⟩ := H.out.cells (by omega)
      have ck := hc k (by omega)
      have hlt : l.getD k 0 < x := P1.out k (by rw [AA.out]; exact hka)
      obtain ⟨y, hy⟩ : ∃ y, l.getD k 0 = y := ⟨_, rfl⟩
      rw [hy] at ck hlt
      have ik : (k : Int) < (l.length : Int) := by omega
      clear hc hy
      go_wp2
      go_round
      case rel => exact ⟨k + 1, by omega, by go_num⟩
      case measure => simp [intOf]; omega
    · have e : k = a := by omega
      subst e
      have ikc : (k : Int) ≤ (c : Int) := by omega
      have hins : (insA l k x).map I = (l.take k).map I ++ [I x] ++ (l.drop k).map I := by unfold insA; rw [List.map_append, List.map_cons]; simp
      have HINS := Lib.hid hins
      clear hins
      by_cases hl : k < l.length
      · obtain ⟨b, off, rfl, hb, hc⟩ := H.out.cells (by omega)
        have ck := hc k hl
        have hge := P2.out k (by rw [AA.out]; exact Nat.le_refl _) hl
        obtain ⟨y, hy⟩ : ∃ y, l.getD k 0 = y := ⟨_, rfl⟩
        have hne : ¬ y = x := fun h => HX.out (by rw [← h, ← hy]; exact mem_getD hl)
        rw [hy] at ck hge
        have h1 : ¬ y < x := by omega
        have hyx : (y == x) = false := by simpa using hne
        have ik : (k : Int) < (l.length : Int) := by omega
        have ikl : (k : Int) ≤ (l.length : Int) := by omega
        have hcn : ¬ (c = k) := by omega
        have T1 := Lib.hid (fun (W : World) (hb : Below w.heap.size w W) => (H.out.below' hb hB).take (n := k) (by omega))
        have T2 := Lib.hid (fun (W : World) (hb : Below w.heap.size w W) => (H.out.below' hb hB).drop hl)
        clear hc hy hge hne
        go_wp2_with (first
          | (at_builtin; refine list_step (fun K hK => ?_); refine step_appM Try.underlying22 info_int rfl (by omega) (by omega) rfl (.tmp 34) (.tmp 37) rfl w.heap.size 0 _ [] rfl (own_empty 1 (Nat.le_refl _)) _ k _ ((l.take k).map I) rfl (T1.out _ ((Below.refl _ _).alloc (Nat.le_refl _) _)) (ints_one _) (by omega) (by simp) ?_; intro A2 c2 w2 hown2 hg2 hbel2; simp only [Nat.zero_add, List.nil_append] at hown2; go_simp; refine hK _ _ ?_; clear hK K)
          | (at_builtin; refine list_step (fun K hK => ?_); refine step_app1 Try.underlying22 info_int rfl (by omega) rfl (.tmp 39) (.tmp 41) rfl w.heap.size _ _ _ rfl (World.ownsRow.alloc hown2 _) w2.heap.size 1 (I x) rfl (by simp) rfl (by omega) (by have := hbel2.size; simp at this; simp; omega) ?_; intro A3 c3 w3 hown3 hg3 hbel3; go_simp; refine hK _ _ ?_; clear hK K)
          | (at_builtin; refine list_step (fun K hK => ?_); have hb23 := put_below2 (Nat.le_refl _) hbel2 hbel3; refine step_appM Try.underlying22 info_int rfl (by omega) (by omega) rfl (.tmp 43) (.tmp 46) rfl w.heap.size _ _ _ rfl hown3 _ (l.length - k) _ ((l.drop k).map I) rfl (T2.out _ hb23) (ints_one _) (by omega) hb23.size ?_; intro A4 c4 w4 hown4 hg4 hbel4; go_simp; refine hK _ _ ?_; clear hK K))
        go_ret
        refine ⟨A4, c4, ret_slice (by have := HPL.out; omega), ?_, (put_below2 (Nat.le_refl _) hbel2 hbel3).trans hbel4⟩
        have h := hown4
        rw [show k + 1 + (l.length - k) = (putI l x).length by have := HPL.out; omega] at h
        unfold OwI
        rw [P.out, AA.out, HINS.out] at *
        simpa using h
      · have e : k = l.length := by omega
        have T1 := Lib.hid (fun (W : World) (hb : Below w.heap.size w W) => (H.out.below' hb hB).take (n := k) (by omega))
        have HE := Lib.hid e
        have hfin : ∀ (A4 : Option Addr) (c4 : Nat) (w4 : World), w4.ownsRow w.heap.size 3 1 (.slice A4 (k + 1 + 0) c4) (k + 1 + 0) ((l.take k).map I ++ [I x] ++ []) → OwI w4 w.heap.size (.slice A4 (putI l x).length c4) (putI l x) := fun A4 c4 w4 h => by
          rw [show k + 1 + 0 = (putI l x).length by have := HPL.out; have := HE.out; omega] at h
          unfold OwI
          have hd : l.drop k = [] := List.drop_of_length_le (by have := HE.out; omega)
          have hi := HINS.out
          rw [hd] at hi
          rw [P.out, AA.out, hi] at *
          simpa using h
        have FIN := Lib.hid hfin
        obtain ⟨N, hN⟩ : ∃ N, l.length = N := ⟨_, rfl⟩
        rw [hN] at e
        subst e
        rw [hN] at *
        have HN := Lib.hid hN
        clear hfin hN
        have hsl : ∀ n : Nat, n - n = 0 := fun n => Nat.sub_self n
        by_cases hck : c = k
        · subst hck
          go_wp2_with (first
            | (at_builtin; refine list_step (fun K hK => ?_); refine step_appM Try.underlying22 info_int rfl (by omega) (by omega) rfl (.tmp 34) (.tmp 37) rfl w.heap.size 0 _ [] rfl (own_empty 1 (Nat.le_refl _)) _ c _ ((l.take c).map I) rfl (T1.out _ ((Below.refl _ _).alloc (Nat.le_refl _) _)) (ints_one _) (by omega) (by simp) ?_; intro A2 c2 w2 hown2 hg2 hbel2; simp only [Nat.zero_add, List.nil_append] at hown2; go_simp; refine hK _ _ ?_; clear hK K)
            | (at_builtin; refine list_step (fun K hK => ?_); refine step_app1 Try.underlying22 info_int rfl (by omega) rfl (.tmp 39) (.tmp 41) rfl w.heap.size _ _ _ rfl (World.ownsRow.alloc hown2 _) w2.heap.size 1 (I x) rfl (by simp) rfl (by omega) (by have := hbel2.size; simp at this; simp; omega) ?_; intro A3 c3 w3 hown3 hg3 hbel3; go_simp; refine hK _ _ ?_; clear hK K)
            | (at_builtin; refine list_step (fun K hK => ?_); have hb23 := put_below2 (Nat.le_refl _) hbel2 hbel3; refine step_appM Try.underlying22 info_int rfl (by omega) (by omega) rfl (.tmp 43) (.tmp 46) rfl w.heap.size _ _ _ rfl hown3 _ 0 _ [] rfl (Rd.nil _ 0 _ _) (by simp) (by omega) hb23.size ?_; intro A4 c4 w4 hown4 hg4 hbel4; go_simp; refine hK _ _ ?_; clear hK K))
          all_goals
            go_ret
            exact ⟨A4, c4, ret_slice (by have := HPL.out; have := HE.out; omega), FIN.out A4 c4 w4 hown4, (put_below2 (Nat.le_refl _) hbel2 hbel3).trans hbel4⟩
        · have hck' : ¬ (k = c) := fun h => hck h.symm
          go_wp2_with (first
            | (at_builtin; refine list_step (fun K hK => ?_); refine step_appM Try.underlying22 info_int rfl (by omega) (by omega) rfl (.tmp 34) (.tmp 37) rfl w.heap.size 0 _ [] rfl (own_empty 1 (Nat.le_refl _)) _ k _ ((l.take k).map I) rfl (T1.out _ ((Below.refl _ _).alloc (Nat.le_refl _) _)) (ints_one _) (by omega) (by simp) ?_; intro A2 c2 w2 hown2 hg2 hbel2; simp only [Nat.zero_add, List.nil_append] at hown2; go_simp; refine hK _ _ ?_; clear hK K)
            | (at_builtin; refine list_step (fun K hK => ?_); refine step_app1 Try.underlying22 info_int rfl (by omega) rfl (.tmp 39) (.tmp 41) rfl w.heap.size _ _ _ rfl (World.ownsRow.alloc hown2 _) w2.heap.size 1 (I x) rfl (by simp) rfl (by omega) (by have := hbel2.size; simp at this; simp; omega) ?_; intro A3 c3 w3 hown3 hg3 hbel3; go_simp; refine hK _ _ ?_; clear hK K)
            | (at_builtin; refine list_step (fun K hK => ?_); have hb23 := put_below2 (Nat.le_refl _) hbel2 hbel3; refine step_appM Try.underlying22 info_int rfl (by omega) (by omega) rfl (.tmp 43) (.tmp 46) rfl w.heap.size _ _ _ rfl hown3 _ 0 _ [] rfl (Rd.nil _ 0 _ _) (by simp) (by omega) hb23.size ?_; intro A4 c4 w4 hown4 hg4 hbel4; go_simp; refine hK _ _ ?_; clear hK K))
          all_goals
            go_ret
            exact ⟨A4, c4, ret_slice (by have := HPL.out; have := HE.out; omega), FIN.out A4 c4 w4 hown4, (put_below2 (Nat.le_refl _) hbel2 hbel3).trans hbel4⟩
end Go.Proofs.Ytppahohakiidmaa
/- A number put into a chain. -/
namespace Go.Proofs.Ytppahohakiidmaa
open Go.RowKit

theorem mem_putI (l : List Int) (x : Int) : x ∈ putI l x := by
  unfold putI
  split
  · assumption
  · unfold insA
    exact List.mem_append_right _ List.mem_cons_self
theorem chG_mem {r : List Int} {x : Int} (h : chG r = true) (hx : x ∈ r) : isNum x = true := by
  obtain ⟨i, hi, rfl⟩ := List.mem_iff_getElem.1 hx
  have h1 := (chG_chn h).rng i hi
  have e : r.getD i 0 = r[i] := by simp [hi]
  rw [e] at h1
  unfold isNum inB
  simpa using h1
def inG (l : List Int) (x : Int) : Bool := (chG l && !hasI l x) && chG (putI l x)
theorem hasI_not {l : List Int} {x : Int} (h : hasI l x = false) : ¬ x ∈ l := by rw [hasI_mem] at h; simpa using h

end Go.Proofs.Ytppahohakiidmaa
/- What is in one of two chains. -/
namespace Go.Proofs.Ytppahohakiidmaa
open Go.RowKit

theorem mem_at_cnt {l : List Int} (ha : Asc l) {x : Int} (hx : x ∈ l) : cnt l x < l.length ∧ l.getD (cnt l x) 0 = x := by
  obtain ⟨h1, h2⟩ := cnt_parts ha x
  have h := mem_at ha (cnt_le l x) h1 h2
  rw [decide_eq_true hx] at h
  exact of_decide_eq_true h.symm

set_option maxRecDepth 100000 in
set_option maxHeartbeats 1000000 in
/-- Of a number that is there the list itself is answered. -/
theorem l1PutH_any (B : Nat) (A : Option Addr) (c : Nat) (l : List Int) (x : Int) (w : World) (hm : l.length ≤ 1000) (ha : Asc l) (hx : x ∈ l) (hr : Rd w B 1 A l.length (l.map I)) :
    Calls Try.prog 82 #[.slice A l.length c, .int .i64 x] w fun e w' => e = .returned (.slice A l.length c) ∧ w = w' := by
  obtain ⟨q1, q2⟩ := mem_at_cnt ha hx
  obtain ⟨p1, _⟩ := cnt_parts ha x
  obtain ⟨b, off, rfl, hb, hc⟩ := hr.cells (by omega)
  have HC := Lib.hid hc
  have P1 := Lib.hid p1
  obtain ⟨a, haa⟩ : ∃ a, cnt l x = a := ⟨_, rfl⟩
  rw [haa] at q1 q2
  have AA := Lib.hid haa
  have Q2 := Lib.hid q2
  clear hr hc ha hx p1 haa q2
  go_enter Try.func82, Try.ntmps82
  go_wp2
  go_loop [5] (fun i => ∃ k : Nat, k ≤ a ∧ i = .int .i64 k) (fun i => a - (intOf i).toNat)
  case atStart => exact ⟨0, by omega, rfl⟩
  case round =>
    obtain ⟨k, hk, rfl⟩ := hrel
    have ck := HC.out k (by omega)
    have ik : (k : Int) < (l.length : Int) := by omega
    by_cases hka : k < a
    · have hlt : l.getD k 0 < x := P1.out k (by rw [AA.out]; exact hka)
      obtain ⟨y, hy⟩ : ∃ y, l.getD k 0 = y := ⟨_, rfl⟩
      rw [hy] at ck hlt
      clear hy
      go_wp2
      go_round
      case rel => exact ⟨k + 1, by omega, by go_num⟩
      case measure => simp [intOf]; omega
    · have e : k = a := by omega
      subst e
      rw [Q2.out] at ck
      go_wp2
      go_ret
      exact ⟨rfl, rfl⟩

set_option maxHeartbeats 1000000 in
theorem l1PutO_any (B0 : Nat) (A : Option Addr) (c : Nat) (l : List Int) (x : Int) (w : World) (hm : l.length ≤ 1000) (ha : Asc l) (hB : B0 ≤ w.heap.size) (hown : OwI w B0 (.slice A l.length c) l) :
    Calls Try.prog 82 #[.slice A l.length c, .int .i64 x] w fun e w' => ∃ A' c', e = .returned (.slice A' (putI l x).length c') ∧ OwI w' B0 (.slice A' (putI l x).length c') (putI l x) ∧ Below w.heap.size w w' := by
  by_cases hx : x ∈ l
  · refine (l1PutH_any w.heap.size A c l x w hm ha hx hown.rd).mono ?_
    rintro e w' ⟨rfl, rfl⟩
    rw [putI_has hx]
    exact ⟨A, c, rfl, hown, Below.refl _ _⟩
  · refine (l1PutN_any w.heap.size A c l x w hm ha hx hown.cap (Nat.le_refl _) hown.rd).mono ?_
    rintro e w' ⟨A', c', rfl, h1, h2⟩
    exact ⟨A', c', rfl, h1.base hB, h2⟩

def uniK (a b : List Int) (k : Nat) : List Int := (b.take k).foldl putI a
def uni (a b : List Int) : List Int := b.foldl putI a
theorem uniK_end (a b : List Int) : uniK a b b.length = uni a b := by unfold uniK uni; rw [List.take_length]
theorem uniK_zero (a b : List Int) : uniK a b 0 = a := rfl
theorem uniK_succ {a b : List Int} {k : Nat} (hk : k < b.length) : uniK a b (k + 1) = putI (uniK a b k) (b.getD k 0) := by
  unfold uniK
  rw [take_succ_getD hk, List.foldl_append]
  rfl
theorem uniK_ok {a b : List Int} (ha : Asc a) (h0 : 1 ≤ a.length) : ∀ k, k ≤ b.length → Asc (uniK a b k) ∧ 1 ≤ (uniK a b k).length ∧ (uniK a b k).length ≤ a.length + k := by
  intro k
  induction k with
  | zero => intro _; rw [uniK_zero]; exact ⟨ha, h0, by omega⟩
  | succ k ih =>
    intro hk
    obtain ⟨h1, h2, h3⟩ := ih (by omega)
    rw [uniK_succ (by omega)]
    refine ⟨putI_asc h1 _, ?_, ?_⟩
    · have := List.length_pos_of_mem (mem_putI (uniK a b k) (b.getD k 0))
      omega
    · have := putI_le (uniK a b k) (b.getD k 0)
      omega
def unG (a b : List Int) : Bool := (chG a && chG b) && chG (uni a b)

end Go.Proofs.Ytppahohakiidmaa
/- The exponents of a plan with one input; sorted, they are a chain. -/
namespace Go.Proofs.Ytppahohakiidmaa
open Go.RowKit

def evS (out : List Int) (st : Int × Int) : List Int := out ++ [leastI (out.getD st.1.toNat 0 + out.getD st.2.toNat 0) 1000001]
def ev (s : List (Int × Int)) : List Int := s.foldl evS [1]
theorem ev_take {s : List (Int × Int)} {k : Nat} (hk : k < s.length) : ev (s.take (k + 1)) = evS (ev (s.take k)) s[k] := by
  unfold ev
  rw [List.take_succ_eq_append_getElem hk, List.foldl_append]
  rfl
theorem ev_length (s : List (Int × Int)) : ∀ k, k ≤ s.length → (ev (s.take k)).length = k + 1 := by
  intro k
  induction k with
  | zero => intro _; rfl
  | succ k ih =>
    intro hk
    rw [ev_take (by omega)]
    unfold evS
    rw [List.length_append, ih (by omega)]
    rfl
theorem getD_map1 (l : List Int) {a : Nat} (ha : a < l.length) : (l.map fun e => [e]).getD a [] = [l.getD a 0] := by simp [ha]
theorem exps_ev {s : List (Int × Int)} (hok : OkS 1 s) : ∀ k, k ≤ s.length → exps 1 (s.take k) = (ev (s.take k)).map fun e => [e] := by
  intro k
  induction k with
  | zero => intro _; rfl
  | succ k ih =>
    intro hk
    have hk' : k < s.length := by omega
    obtain ⟨h1, h2, h3⟩ := hok k hk'
    have hl := ev_length s k (by omega)
    rw [exps_take 1 hk', ev_take hk', ih (by omega)]
    unfold expStep evS
    rw [getD_map1 _ (by omega), getD_map1 _ (by omega), List.map_append]
    rfl
theorem ev_pre {s : List (Int × Int)} : ∀ n k, k ≤ n → n ≤ s.length → ∀ i, i < k + 1 → (ev (s.take n)).getD i 0 = (ev (s.take k)).getD i 0 := by
  intro n
  induction n with
  | zero => intro k hk _ i _; rw [show k = 0 by omega]
  | succ n ih =>
    intro k hk hn i hi
    rcases Nat.lt_or_eq_of_le hk with h | rfl
    · rw [ev_take (by omega)]
      unfold evS
      have hl := ev_length s n (by omega)
      rw [List.getD_eq_getElem?_getD, List.getElem?_append_left (by omega), ← List.getD_eq_getElem?_getD]
      exact ih k (by omega) (by omega) i hi
    · rfl
/-- Of exponents within their bounds each is a sum. -/
theorem ev_sums {s : List (Int × Int)} (hok : OkS 1 s) (hb : expsB (exps 1 s) = true) :
    (ev s).length = s.length + 1 ∧ (ev s).getD 0 0 = 1 ∧ (∀ i, i < s.length + 1 → 1 ≤ (ev s).getD i 0 ∧ (ev s).getD i 0 ≤ 1000000) ∧
      ∀ k, k < s.length → ∃ a b : Nat, a ≤ b ∧ b < k + 1 ∧ (ev s).getD (k + 1) 0 = (ev s).getD a 0 + (ev s).getD b 0 := by
  have hfull : s.take s.length = s := List.take_of_length_le (Nat.le_refl _)
  have hlen := ev_length s s.length (Nat.le_refl _)
  rw [hfull] at hlen
  have hE := exps_ev hok s.length (Nat.le_refl _)
  rw [hfull] at hE
  have hle : ∀ i, i < s.length + 1 → 0 ≤ (ev s).getD i 0 ∧ (ev s).getD i 0 ≤ 1000000 := fun i hi => by
    have hm : [(ev s).getD i 0] ∈ exps 1 s := by
      rw [hE]
      exact List.mem_map.2 ⟨(ev s).getD i 0, mem_getD (by omega), rfl⟩
    unfold expsB at hb
    rw [List.all_eq_true] at hb
    have h := hb _ hm
    unfold allB at h
    simpa [inB] using h
  have h0 : (ev s).getD 0 0 = 1 := by
    have h := ev_pre (s := s) s.length 0 (by omega) (Nat.le_refl _) 0 (by omega)
    rw [hfull] at h
    rw [h]
    rfl
  have hsum : ∀ k, k < s.length → ∃ a b : Nat, a ≤ b ∧ b < k + 1 ∧ (ev s).getD (k + 1) 0 = (ev s).getD a 0 + (ev s).getD b 0 := fun k hk => by
    obtain ⟨h1, h2, h3⟩ := hok k hk
    refine ⟨(s[k]).1.toNat, (s[k]).2.toNat, by omega, by omega, ?_⟩
    have p1 := ev_pre (s := s) s.length (k + 1) (by omega) (Nat.le_refl _) (k + 1) (by omega)
    have p2 := ev_pre (s := s) s.length k (by omega) (Nat.le_refl _) (s[k]).1.toNat (by omega)
    have p3 := ev_pre (s := s) s.length k (by omega) (Nat.le_refl _) (s[k]).2.toNat (by omega)
    rw [hfull] at p1 p2 p3
    have hl := ev_length s k (by omega)
    have e : (ev (s.take (k + 1))).getD (k + 1) 0 = leastI ((ev (s.take k)).getD (s[k]).1.toNat 0 + (ev (s.take k)).getD (s[k]).2.toNat 0) 1000001 := by
      rw [ev_take hk]
      unfold evS
      rw [List.getD_eq_getElem?_getD, List.getElem?_append_right (by omega), hl]
      simp
    rw [p2, p3]
    rw [e] at p1
    have hb1 := hle (k + 1) (by omega)
    rw [p1] at hb1
    rw [p1]
    unfold leastI at hb1 ⊢
    split at hb1
    · rename_i h
      rw [if_pos h]
    · omega
  refine ⟨hlen, h0, fun i hi => ?_, hsum⟩
  refine ⟨?_, (hle i hi).2⟩
  have hpos : ∀ n i, i ≤ n → i < s.length + 1 → 1 ≤ (ev s).getD i 0 := by
    intro n
    induction n with
    | zero => intro i hi _; rw [show i = 0 by omega, h0]; omega
    | succ n ih =>
      intro i hi hl
      rcases Nat.eq_zero_or_pos i with h | h
      · rw [h, h0]; omega
      · obtain ⟨a, b, h1, h2, h3⟩ := hsum (i - 1) (by omega)
        rw [show i - 1 + 1 = i by omega] at h3 h2
        have ha := ih a (by omega) (by omega)
        have hb := ih b (by omega) (by omega)
        omega
  exact hpos i i (Nat.le_refl _) hi

theorem mem_putI_iff (l : List Int) (x y : Int) : y ∈ putI l x ↔ y = x ∨ y ∈ l := by
  unfold putI
  split
  · rename_i h
    constructor
    · exact .inr
    · rintro (rfl | h') <;> assumption
  · unfold insA
    rw [List.mem_append, List.mem_cons]
    constructor
    · rintro (h | h | h)
      · exact .inr (List.mem_of_mem_take h)
      · exact .inl h
      · exact .inr (List.mem_of_mem_drop h)
    · rintro (h | h)
      · exact .inr (.inl h)
      · rw [← List.take_append_drop (cnt l x) l] at h
        rcases List.mem_append.1 h with h | h
        · exact .inl h
        · exact .inr (.inr h)
theorem uni0_ok (b : List Int) : ∀ k, k ≤ b.length → Asc (uniK [] b k) ∧ (uniK [] b k).length ≤ k ∧ ∀ y, y ∈ uniK [] b k ↔ y ∈ b.take k := by
  intro k
  induction k with
  | zero =>
    intro _
    rw [uniK_zero]
    exact ⟨fun i j _ h => absurd h (by simp), by simp, fun y => by simp⟩
  | succ k ih =>
    intro hk
    obtain ⟨h1, h2, h3⟩ := ih (by omega)
    rw [uniK_succ (by omega)]
    refine ⟨putI_asc h1 _, by have := putI_le (uniK [] b k) (b.getD k 0); omega, fun y => ?_⟩
    rw [mem_putI_iff, h3, take_succ_getD (by omega), List.mem_append, List.mem_singleton]
    constructor
    · rintro (h | h)
      · exact .inr h
      · exact .inl h
    · rintro (h | h)
      · exact .inr h
      · exact .inl h
theorem prs_intro {l : List Int} {k i j : Nat} (hij : i ≤ j) (hj : j < k) (h : l.getD i 0 + l.getD j 0 = l.getD k 0) : prs l k k ≠ [] := by
  intro he
  have hm : ((i : Int), (j : Int)) ∈ prs l k k := by
    unfold prs
    refine List.mem_flatMap.2 ⟨j, List.mem_range.2 hj, ?_⟩
    unfold prsJ prsI
    exact List.mem_map.2 ⟨i, List.mem_filter.2 ⟨List.mem_range.2 (by omega), by simpa using h⟩, rfl⟩
  rw [he] at hm
  simp at hm
theorem getD_of_mem {l : List Int} {x : Int} (h : x ∈ l) : ∃ i, i < l.length ∧ l.getD i 0 = x := by
  obtain ⟨i, hi, rfl⟩ := List.mem_iff_getElem.1 h
  exact ⟨i, hi, by simp [hi]⟩
theorem asc_idx {l : List Int} (ha : Asc l) {i k : Nat} (hi : i < l.length) (_hk : k < l.length) (h : l.getD i 0 < l.getD k 0) : i < k := by
  rcases Nat.lt_or_ge i k with h' | h'
  · exact h'
  · have := asc_le ha h' hi
    omega
theorem chain_of_ev {s : List (Int × Int)} (hok : OkS 1 s) (hb : expsB (exps 1 s) = true) (hs : s.length ≤ 40) : chG (uni [] (ev s)) = true := by
  obtain ⟨h1, h2, h3, h4⟩ := ev_sums hok hb
  obtain ⟨ha, hl, hm⟩ := uni0_ok (ev s) (ev s).length (Nat.le_refl _)
  rw [uniK_end] at ha hl hm
  rw [List.take_length] at hm
  obtain ⟨L, hL⟩ : ∃ L, uni [] (ev s) = L := ⟨_, rfl⟩
  rw [hL] at ha hl hm ⊢
  have hr : ∀ i, i < L.length → 1 ≤ L.getD i 0 ∧ L.getD i 0 ≤ 1000000 := fun i hi => by
    obtain ⟨j, hj, e⟩ := getD_of_mem ((hm _).1 (mem_getD hi))
    rw [← e]
    exact h3 j (by omega)
  have hone : (1 : Int) ∈ L := (hm 1).2 (by rw [← h2]; exact mem_getD (by omega))
  obtain ⟨i1, hi1, e1⟩ := getD_of_mem hone
  have hpos : 1 ≤ L.length := by omega
  have hz : L.getD 0 0 = 1 := by
    have := (hr 0 (by omega)).1
    have := asc_le ha (i := 0) (j := i1) (by omega) hi1
    omega
  have hch : Chn L := ⟨hpos, by omega, hz, hr, ha⟩
  unfold chG
  rw [chn_chB hch, Bool.true_and]
  unfold sumsB
  rw [List.all_eq_true]
  intro k hk
  have hkl := List.mem_range.1 hk
  rcases Nat.eq_zero_or_pos k with h | h
  · simp [h]
  · have hne : prs L k k ≠ [] := by
      obtain ⟨j, hj, e⟩ := getD_of_mem ((hm _).1 (mem_getD hkl))
      have hj0 : j ≠ 0 := fun hj0 => by
        rw [hj0, h2] at e
        have := ha 0 k h hkl
        omega
      obtain ⟨a, b, hab, hbk, hsum⟩ := h4 (j - 1) (by omega)
      rw [show j - 1 + 1 = j by omega] at hsum hbk
      obtain ⟨ia, hia, ea⟩ := getD_of_mem ((hm _).2 (mem_getD (l := ev s) (t := a) (by omega)))
      obtain ⟨ib, hib, eb⟩ := getD_of_mem ((hm _).2 (mem_getD (l := ev s) (t := b) (by omega)))
      have pa := (h3 a (by omega)).1
      have pb := (h3 b (by omega)).1
      have ka := asc_idx ha hia hkl (by omega)
      have kb := asc_idx ha hib hkl (by omega)
      rcases Nat.le_total ia ib with h' | h'
      · exact prs_intro h' kb (by omega)
      · exact prs_intro h' ka (by omega)
    simp [isEmpty_ne hne]
end Go.Proofs.Ytppahohakiidmaa
/- The sorted exponents of a plan with one input, by the model. -/
namespace Go.Proofs.Ytppahohakiidmaa
open Go.RowKit

def cpG (p : Pl) : Bool := good p && decide (p.n = 1)
def cpL (p : Pl) : List Int := if cpG p then uni [] (ev p.s) else []
theorem cpL_true {p : Pl} (h : cpG p = true) : cpL p = uni [] (ev p.s) := by unfold cpL; rw [if_pos h]
theorem cpL_false {p : Pl} (h : cpG p = false) : cpL p = [] := by unfold cpL; rw [h]; rfl
theorem cpG_facts {p : Pl} (h : cpG p = true) : p.n = 1 ∧ p.s.length ≤ 40 ∧ OkS 1 p.s ∧ expsB (exps 1 p.s) = true ∧ good p = true := by
  unfold cpG at h
  simp only [Bool.and_eq_true, decide_eq_true_eq] at h
  obtain ⟨N, hN, n1, n6, hs40, _, hok, _, hb⟩ := good_facts h.1
  have e : N = 1 := by omega
  subst e
  exact ⟨h.2, hs40, hok, hb, h.1⟩
theorem cpL_le (p : Pl) : (cpL p).length ≤ 1000 := by
  cases h : cpG p with
  | false => rw [cpL_false h]; simp
  | true =>
    obtain ⟨_, hs, hok, hb, _⟩ := cpG_facts h
    rw [cpL_true h]
    have := (chG_chn (chain_of_ev hok hb hs)).most
    omega
theorem exps_row {s : List (Int × Int)} (hok : OkS 1 s) {k : Nat} (hk : k < (exps 1 s).length) : (exps 1 s).getD k [] = [(ev s).getD k 0] := by
  have hE := exps_ev hok s.length (Nat.le_refl _)
  rw [List.take_of_length_le (Nat.le_refl _)] at hE
  have hl : (exps 1 s).length = (ev s).length := by rw [hE]; simp
  have hk' : k < (ev s).length := by omega
  rw [hE]
  exact getD_map1 _ hk'

end Go.Proofs.Ytppahohakiidmaa
/- The sorted exponents of a plan with one input, by the program. -/
namespace Go.Proofs.Ytppahohakiidmaa
open Go.RowKit

theorem vals_good {p : Pl} (h : cpG p = true) : valsI p = some ((exps 1 p.s).map (pad 1)) := by
  obtain ⟨hn, _, _, _, hg⟩ := cpG_facts h
  rw [valsI_eq, hg, if_pos rfl, hn]
  rfl
theorem vals_bad {p : Pl} (h : good p = false) : valsI p = none := by rw [valsI_eq, h]; rfl
theorem six_pad1 {s : List (Int × Int)} (hok : OkS 1 s) : Six ((exps 1 s).map (pad 1)) := by
  intro r hr
  obtain ⟨r0, h0, rfl⟩ := List.mem_map.1 hr
  have h := exps_ok hok s.length (Nat.le_refl _)
  rw [List.take_of_length_le (Nat.le_refl _)] at h
  have := (h r0 h0).1
  simp [pad, this]
/-- The six cells of a value. -/
theorem six_cells {w : World} {B R c : Nat} {A : Option Addr} {e : TypeId} {rows : List (List Int)} (hs : Six rows) (hR : rows.length = R) (h : w.ownsRow B e 6 (.slice A R c) R (fl6 rows)) {k : Nat} (hk : k < R) :
    ∃ g, A = some ⟨g, 0, none⟩ ∧ g < w.heap.size ∧ w.cell? ⟨g, k * 6, none⟩ = some (.int .i64 ((rows.getD k []).getD 0 0)) ∧ w.cell? ⟨g, k * 6 + 1, none⟩ = some (.int .i64 ((rows.getD k []).getD 1 0)) ∧ w.cell? ⟨g, k * 6 + 2, none⟩ = some (.int .i64 ((rows.getD k []).getD 2 0)) ∧
      w.cell? ⟨g, k * 6 + 3, none⟩ = some (.int .i64 ((rows.getD k []).getD 3 0)) ∧ w.cell? ⟨g, k * 6 + 4, none⟩ = some (.int .i64 ((rows.getD k []).getD 4 0)) ∧ w.cell? ⟨g, k * 6 + 5, none⟩ = some (.int .i64 ((rows.getD k []).getD 5 0)) := by
  obtain ⟨g, rfl, _, hg, hc, _⟩ := own_at h (by omega)
  have hk' : k < rows.length := by omega
  have key : ∀ j, j < 6 → w.cell? ⟨g, k * 6 + j, none⟩ = some (.int .i64 ((rows.getD k []).getD j 0)) := fun j hj => by
    rw [hc _ (by omega), fl6_at hs hk' hj]
    simp [hk', I]
  exact ⟨g, rfl, hg, key 0 (by omega), key 1 (by omega), key 2 (by omega), key 3 (by omega), key 4 (by omega), key 5 (by omega)⟩

set_option maxRecDepth 100000 in
set_option maxHeartbeats 4000000 in
theorem implCp_any (B : Nat) (A1 A2 : Option Addr) (c1 c2 : Nat) (p : Pl) (w : World) (hB : B ≤ w.heap.size) (hls : p.s.length ≤ 2000000) (hlo : p.o.length ≤ 2000000) (hr : RdP w B A1 A2 p) :
    Calls Try.prog 72 #[.agg #[.int .i64 p.n, .slice A1 p.s.length c1, .slice A2 p.o.length c2]] w fun e w' =>
      ∃ A c, e = .returned (.tuple #[.slice A (cpL p).length c, .bool (cpG p)]) ∧ OwI w' w.heap.size (.slice A (cpL p).length c) (cpL p) ∧ Below w.heap.size w w' := by
  have H := Lib.hid hr
  clear hr
  have hC := fun (W : World) (hb : Below w.heap.size w W) => withValues_any B A1 A2 c1 c2 p W (by have := hb.size; omega) hls hlo (H.out.below' hb hB)
  have HC := Lib.hid hC
  clear hC
  cases hg : good p with
  | false =>
    have E := Lib.hid (show cpG p = false by unfold cpG; rw [hg]; rfl)
    have VB := Lib.hid (vals_bad hg)
    clear hg
    go_enter Try.func72, Try.ntmps72
    go_wp2_with fail
    go_at_call 91
    generalize hw1 : World.alloc w _ = w1
    obtain ⟨x0, x1, x2, xs, xb⟩ := box3 hw1
    clear hw1
    refine (HC.out w1 xb).mono ?_
    rintro e w2 ⟨hb2, hpost⟩
    rw [VB.out] at hpost
    simp only at hpost
    subst hpost
    have HB2 := Lib.hid (xb.trans (hb2.mono (show w.heap.size ≤ w1.heap.size by omega)))
    have hs2 : w.heap.size ≤ w2.heap.size := HB2.out.size
    clear x0 x1 x2 xs xb hb2
    go_wp2
    go_ret2
    exact ⟨none, 0, by rw [E.out, cpL_false E.out]; rfl, by rw [cpL_false E.out]; exact OwI.nil _ _, HB2.out.alloc hs2 _⟩
  | true =>
    by_cases hn : p.n = 1
    case neg =>
      have E := Lib.hid (show cpG p = false by unfold cpG; rw [decide_eq_false hn]; simp)
      have VG := Lib.hid (show valsI p = some ((exps p.n.toNat p.s).map (pad p.n.toNat)) by rw [valsI_eq, hg]; rfl)
      have HNB := Lib.hid (show (p.n != 1) = true by simpa using hn)
      clear hg hn
      go_enter Try.func72, Try.ntmps72
      go_wp2_with fail
      go_at_call 91
      generalize hw1 : World.alloc w _ = w1
      obtain ⟨x0, x1, x2, xs, xb⟩ := box3 hw1
      clear hw1
      refine (HC.out w1 xb).mono ?_
      rintro e w2 ⟨hb2, hpost⟩
      rw [VG.out] at hpost
      simp only at hpost
      obtain ⟨A3, c3, rfl, _⟩ := hpost
      have y0 := cell_kept ((hb2.cell (p := ⟨w.heap.size, 0, none⟩) (by simp only []; omega)).trans x0)
      have HB2 := Lib.hid (xb.trans (hb2.mono (show w.heap.size ≤ w1.heap.size by omega)))
      have hs2 : w.heap.size ≤ w2.heap.size := HB2.out.size
      have hnb := HNB.out
      clear x0 x1 x2 xs xb hb2
      go_wp2
      go_ret2
      exact ⟨none, 0, by rw [E.out, cpL_false E.out]; rfl, by rw [cpL_false E.out]; exact OwI.nil _ _, HB2.out.alloc hs2 _⟩
    case pos =>
      have hcp : cpG p = true := by unfold cpG; rw [hg, decide_eq_true hn]; rfl
      obtain ⟨hn', hs40, hok, hbb, hgg⟩ := cpG_facts hcp
      clear hn' hgg
      have hul : (uni [] (ev p.s)).length ≤ 41 := (chG_chn (chain_of_ev hok hbb hs40)).most
      have VG := Lib.hid (vals_good hcp)
      have E := Lib.hid hcp
      rw [cpL_true hcp]
      have hrow := fun k (hk : k < (exps 1 p.s).length) => exps_row hok hk
      have hevl : (ev p.s).length = p.s.length + 1 := (ev_sums hok hbb).1
      have hel : (exps 1 p.s).length = 1 + p.s.length := exps_length 1 p.s
      have hsix := six_pad1 hok
      obtain ⟨V, hV⟩ : ∃ V, ev p.s = V := ⟨_, rfl⟩
      rw [hV] at hevl hul hrow ⊢
      have hrow2 : ∀ k, k < V.length → (((exps 1 p.s).map (pad 1)).getD k []).getD 0 0 = V.getD k 0 := fun k hk => by
        have h1 := hrow k (by omega)
        have hk' : k < (exps 1 p.s).length := by omega
        have e : ((exps 1 p.s).map (pad 1)).getD k [] = pad 1 ((exps 1 p.s).getD k []) := by simp [hk']
        rw [e, h1]
        rfl
      have hrl : ((exps 1 p.s).map (pad 1)).length = V.length := by simp; omega
      obtain ⟨R, hR⟩ : ∃ R, (exps 1 p.s).map (pad 1) = R := ⟨_, rfl⟩
      rw [hR] at hsix hrow2 hrl
      have VG2 := Lib.hid (show valsI p = some R by rw [VG.out, hR])
      have HSIX := Lib.hid hsix
      have HROW := Lib.hid hrow2
      have HRL := Lib.hid hrl
      have hV41 : V.length ≤ 41 := by omega
      have U0 := Lib.hid (uni0_ok V)
      have HNN := Lib.hid hn
      clear hg hn hcp hok hbb hrow hevl hel hsix hrow2 hrl hR VG hV
      go_enter Try.func72, Try.ntmps72
      go_wp2_with fail
      go_at_call 91
      generalize hw1 : World.alloc w _ = w1
      obtain ⟨x0, x1, x2, xs, xb⟩ := box3 hw1
      clear hw1
      refine (HC.out w1 xb).mono ?_
      rintro e w2 ⟨hb2, hpost⟩
      rw [VG2.out] at hpost
      simp only at hpost
      obtain ⟨A3, c3, rfl, hown2⟩ := hpost
      have y0' := (hb2.cell (p := ⟨w.heap.size, 0, none⟩) (by simp only []; omega)).trans x0
      rw [HNN.out] at y0'
      have y0 := cell_kept y0'
      have HB2 := Lib.hid (xb.trans (hb2.mono (show w.heap.size ≤ w1.heap.size by omega)))
      have hs2 : w.heap.size ≤ w2.heap.size := HB2.out.size
      have OW2 := Lib.hid hown2
      have hRlen := HRL.out
      rw [hRlen]
      clear x0 x1 x2 xs xb hb2 hown2 y0' hRlen
      go_wp2
      generalize hw3 : World.alloc w2 _ = w3
      have hb3 : Below w2.heap.size w2 w3 := by rw [← hw3]; exact (Below.refl _ _).alloc (Nat.le_refl _) _
      have HB3 := Lib.hid hb3
      clear hw3 hb3 y0
      go_loopw [6, 25] (fun ov iv wr => ∃ (k n : Nat) (A4 : Option Addr) (c4 : Nat), k ≤ V.length ∧ iv = .int .i64 k ∧ ov = .slice A4 n c4 ∧ n = (uniK [] V k).length ∧ (uniK [] V k = [] → A4 = none ∧ c4 = 0) ∧ wr.ownsRow w2.heap.size 3 1 (.slice A4 n c4) n ((uniK [] V k).map I) ∧ Below w2.heap.size w2 wr) (fun _ i _ => V.length - (intOf i).toNat)
      case atStart => exact ⟨0, 0, none, 0, by omega, rfl, rfl, rfl, fun _ => ⟨rfl, rfl⟩, World.ownsRow_nil _ _ _ _, HB3.out⟩
      case round =>
        obtain ⟨k, n, A4, c4, hk, rfl, rfl, hn, hnil, hown, hbel⟩ := hrel
        have OWN := Lib.hid hown
        have BEL := Lib.hid hbel
        have HN := Lib.hid hn
        have hs : w2.heap.size ≤ wr.heap.size := hbel.size
        by_cases hlt : k < V.length
        · obtain ⟨g, rfl, hgs, d0, d1, d2, d3, d4, d5⟩ := six_cells HSIX.out rfl (own_below OW2.out hbel) (k := k) (by rw [HRL.out]; exact hlt)
          rw [HROW.out k hlt] at d0
          obtain ⟨ok1, ok2, _⟩ := U0.out k (by omega)
          have SUC := Lib.hid (uniK_succ (a := []) hlt)
          obtain ⟨e, he⟩ : ∃ e, V.getD k 0 = e := ⟨_, rfl⟩
          rw [he] at SUC d0
          generalize (R.getD k []).getD 1 0 = a1 at d1
          generalize (R.getD k []).getD 2 0 = a2 at d2
          generalize (R.getD k []).getD 3 0 = a3 at d3
          generalize (R.getD k []).getD 4 0 = a4 at d4
          generalize (R.getD k []).getD 5 0 = a5 at d5
          have hW := fun (W : World) (hb : Below wr.heap.size wr W) => with_any W.heap.size A4 c4 (uniK [] V k) e W (by omega) ok1 hnil (Nat.le_refl _) (by
            have h := own_below OWN.out hb
            rw [HN.out] at h
            exact Rd.of_own h)
          rw [← hn] at hW
          have HW := Lib.hid hW
          have HS := Lib.hid hs
          have ik : (k : Int) < (V.length : Int) := by omega
          clear hW ok1 ok2 hn hnil hown hbel he
          go_wp2_with fail
          go_at_call 65
          generalize hw5 : World.alloc wr _ = w5
          have hb5 : Below wr.heap.size wr w5 := by rw [← hw5]; exact (Below.refl _ _).alloc (Nat.le_refl _) _
          clear hw5
          refine (HW.out w5 hb5).mono ?_
          rintro e' w6 ⟨A5, c5, rfl, hown5, hb6⟩
          have OW5 := Lib.hid hown5
          have HB6 := Lib.hid (BEL.out.trans ((hb5.trans (hb6.mono hb5.size)).mono HS.out))
          have hs5 : w2.heap.size ≤ w5.heap.size := Nat.le_trans HS.out hb5.size
          clear hown5 hb6 hb5
          go_wp2
          go_roundw
          case rel =>
            refine ⟨k + 1, (putI (uniK [] V k) e).length, A5, c5, by omega, by go_num, rfl, by rw [SUC.out], fun h => ?_, ?_, HB6.out⟩
            · rw [SUC.out] at h
              have := mem_putI (uniK [] V k) e
              rw [h] at this
              simp at this
            · rw [SUC.out]
              exact OW5.out.base hs5
          case measure => simp [intOf]; omega
        · have ek : k = V.length := by omega
          subst ek
          rw [uniK_end] at hn
          subst hn
          have HS := Lib.hid hs
          clear hbel hown hnil hs
          go_wp2
          go_ret2
          refine ⟨A4, c4, by rw [E.out]; rfl, ?_, HB2.out.trans (BEL.out.mono hs2)⟩
          have h := OWN.out
          rw [uniK_end] at h
          exact own_base h hs2
end Go.Proofs.Ytppahohakiidmaa
/- The binary star chain as data. -/
namespace Go.Proofs.Ytppahohakiidmaa
open Go.RowKit

def binS (out : List Int) (d : Int) : List Int := if d = 1 then out ++ [2 * out.getD (out.length - 1) 0, 2 * out.getD (out.length - 1) 0 + 1] else out ++ [2 * out.getD (out.length - 1) 0]
def binL (n : Nat) : List Int := ((bitsF 7 n).drop 1).foldl binS [1]
def binOk (n : Nat) : Bool := isNum (n : Int) && (bnG (n : Int) && (cpG (bnR (n : Int)) && (decide (cpL (bnR (n : Int)) = binL n) && !(bitsF 7 n).isEmpty)))
theorem bin_data : (List.range 100).all (fun i => binOk (i + 1)) = true := by decide +kernel
theorem binOk_at {n : Nat} (h1 : 1 ≤ n) (h2 : n ≤ 100) : binOk n = true := by
  have h := List.all_eq_true.1 bin_data (n - 1) (List.mem_range.2 (by omega))
  have e : n - 1 + 1 = n := by omega
  rw [← e]
  exact h
theorem binOk_facts {n : Nat} (h : binOk n = true) : isNum (n : Int) = true ∧ bnG (n : Int) = true ∧ cpG (bnR (n : Int)) = true ∧ cpL (bnR (n : Int)) = binL n ∧ 1 ≤ (bitsF 7 n).length := by
  unfold binOk at h
  obtain ⟨q1, h⟩ := (Bool.and_eq_true _ _).mp h
  obtain ⟨q2, h⟩ := (Bool.and_eq_true _ _).mp h
  obtain ⟨q3, h⟩ := (Bool.and_eq_true _ _).mp h
  obtain ⟨q4, h⟩ := (Bool.and_eq_true _ _).mp h
  refine ⟨q1, q2, q3, of_decide_eq_true q4, ?_⟩
  cases hq : bitsF 7 n with
  | nil => rw [hq] at h; exact absurd h (by simp)
  | cons _ _ => simp
end Go.Proofs.Ytppahohakiidmaa
/- Lists of natural numbers as cells; own rows of integers: their cells, a store, a beginning. -/
namespace Go.Proofs.Ytppahohakiidmaa
open Go.RowKit

def cs (l : List Nat) : List Int := l.map fun (n : Nat) => (n : Int)
theorem cs_len (l : List Nat) : (cs l).length = l.length := by simp [cs]
theorem cs_getD (l : List Nat) (i : Nat) : (cs l).getD i 0 = ((l.getD i 0 : Nat) : Int) := by
  simp only [cs, List.getD_eq_getElem?_getD, List.getElem?_map]
  cases l[i]? <;> rfl
theorem cs_snoc (l : List Nat) (x : Nat) : cs (l ++ [x]) = cs l ++ [(x : Int)] := by simp [cs]
theorem own_cells {w : World} {B n c : Nat} {A : Option Addr} {l : List Int} (h : OwI w B (.slice A n c) l) (hl : l.length = n) (hn : 0 < n) :
    ∃ g, A = some ⟨g, 0, none⟩ ∧ B ≤ g ∧ g < w.heap.size ∧ ∀ j, j < n → w.cell? ⟨g, j, none⟩ = some (.int .i64 (l.getD j 0)) := by
  unfold OwI at h
  rw [hl] at h
  obtain ⟨g, rfl, h1, h2, h3, _⟩ := own_at h hn
  refine ⟨g, rfl, h1, h2, fun j hj => ?_⟩
  rw [h3 j (by omega), List.getElem?_map, List.getElem?_eq_getElem (by omega), List.getD_eq_getElem?_getD, List.getElem?_eq_getElem (by omega)]
  rfl
theorem own_store {w : World} {B g n c i : Nat} {l : List Int} {x : Int} (h : OwI w B (.slice (some ⟨g, 0, none⟩) n c) l) (hl : l.length = n) :
    w.frozen? ⟨g, i, none⟩ = false ∧ OwI (w.setCell ⟨g, i, none⟩ (.int .i64 x)) B (.slice (some ⟨g, 0, none⟩) n c) (l.set i x) := by
  have h' : w.ownsRow B 3 1 (.slice (some ⟨g, 0, none⟩) n c) n (l.map I) := by unfold OwI at h; rw [hl] at h; exact h
  refine ⟨h'.frozenAt _, ?_⟩
  have h1 := (h'.stored i (.int .i64 x)).1
  unfold OwI
  rw [List.length_set, hl, List.map_set]
  exact h1
/-- A beginning of an own row. -/
theorem own_take {w : World} {B g c : Nat} {l : List Int} (h : OwI w B (.slice (some ⟨g, 0, none⟩) l.length c) l) {k : Nat} (hk : k ≤ l.length) : OwI w B (.slice (some ⟨g, 0, none⟩) k c) (l.take k) := by
  unfold OwI at h ⊢
  have hl : (l.take k).length = k := by rw [List.length_take]; omega
  rw [hl]
  rcases h.2 with ⟨h0, _⟩ | ⟨g', cap, cur, hv, hb, hg, hn, hm, hs, ht⟩
  · cases h0
  · injection hv with e1 _ e2
    injection e1 with e1
    injection e1 with e1
    subst e1
    subst e2
    refine ⟨by rw [List.length_map, hl, Nat.mul_one], .inr ⟨g, c, cur, rfl, hb, hg, by omega, hm, hs, ?_⟩⟩
    have := congrArg (List.take (k * 1)) ht
    rw [List.take_take, Nat.min_eq_left (by omega)] at this
    rw [this, Nat.mul_one, List.map_take]
/-- An own row stays as long as its block. -/
theorem own_heap {w w' : World} {B g n c : Nat} {l : List Int} (h : OwI w B (.slice (some ⟨g, 0, none⟩) n c) l) (hk : w'.heap[g]? = w.heap[g]?) : OwI w' B (.slice (some ⟨g, 0, none⟩) n c) l := by
  refine ⟨h.1, ?_⟩
  rcases h.2 with ⟨h0, _⟩ | ⟨g', cap, cur, hv, hb, hg, hr⟩
  · cases h0
  · have e : g = g' := by
      injection hv with e1
      injection e1 with e1
      injection e1
    subst e
    exact .inr ⟨g, cap, cur, hv, hb, hk.trans hg, hr⟩
theorem own_lt {w : World} {B g n c : Nat} {l : List Int} (h : OwI w B (.slice (some ⟨g, 0, none⟩) n c) l) : B ≤ g ∧ g < w.heap.size := by
  rcases h.2 with ⟨h0, _⟩ | ⟨g', cap, cur, hv, hb, hg, hr⟩
  · cases h0
  · have e : g = g' := by
      injection hv with e1
      injection e1 with e1
      injection e1
    subst e
    exact ⟨hb, (Array.getElem?_eq_some_iff.1 hg).1⟩
theorem cell_heap {w w' : World} {p : Addr} (h : w'.heap[p.block]? = w.heap[p.block]?) : w'.cell? p = w.cell? p := by
  unfold World.cell?
  rw [h]
end Go.Proofs.Ytppahohakiidmaa
/- The binary star chain: both sides. -/
namespace Go.Proofs.Ytppahohakiidmaa
open Go.RowKit

/-- What is known of the plan for a number, and no more. -/
theorem bin_facts {n : Nat} (h1 : 1 ≤ n) (h2 : n ≤ 100) : ∃ Q : Pl, bnR (n : Int) = Q ∧ bnG (n : Int) = true ∧ cpG Q = true ∧ cpL Q = binL n ∧ 1 ≤ (bitsF 7 n).length ∧ Q.s.length ≤ 1000 ∧ Q.o.length ≤ 1000 := by
  obtain ⟨_, q2, q3, q4, q5⟩ := binOk_facts (binOk_at h1 h2)
  exact ⟨_, rfl, q2, q3, q4, q5, (bnR_len _).1, (bnR_len _).2⟩
def bsL (x : Int) : List Int := if isSh x then binL x.toNat else []
theorem bsL_yes {n : Nat} (h : isSh (n : Int) = true) : bsL (n : Int) = binL n := by unfold bsL; rw [if_pos h]; rfl
theorem bsL_no {x : Int} (h : isSh x = false) : bsL x = [] := by unfold bsL; rw [h]; rfl

def binI (l : List Int) (i : Nat) : List Int := (l.take i).foldl binS [1]
theorem binI_succ {l : List Int} {i : Nat} (h : i < l.length) : binI l (i + 1) = binS (binI l i) l[i] := by
  unfold binI
  rw [List.take_succ_eq_append_getElem h, List.foldl_append]
  rfl
theorem binI_end (l : List Int) : binI l l.length = l.foldl binS [1] := by
  unfold binI
  rw [List.take_of_length_le (Nat.le_refl _)]
structure BB (l : List Int) (i : Nat) : Prop where
  pos : 1 ≤ l.length
  len : l.length ≤ 2 * i + 1
  bd : 0 ≤ l.getD (l.length - 1) 0 ∧ l.getD (l.length - 1) 0 ≤ 2 * 4 ^ i - 1
theorem getD_last1 (l : List Int) (x : Int) : (l ++ [x]).getD ((l ++ [x]).length - 1) 0 = x := by
  rw [List.length_append, List.length_singleton, Nat.add_sub_cancel, List.getD_eq_getElem?_getD, List.getElem?_concat_length]
  rfl
theorem BB.step {l : List Int} {i : Nat} (h : BB l i) (d : Int) : BB (binS l d) (i + 1) := by
  have hb := h.bd
  have hp := h.pos
  have hl := h.len
  have h4 : (4 : Int) ^ (i + 1) = 4 * 4 ^ i := by rw [Int.pow_succ, Int.mul_comm]
  unfold binS
  split
  · have e : l ++ [2 * l.getD (l.length - 1) 0, 2 * l.getD (l.length - 1) 0 + 1] = (l ++ [2 * l.getD (l.length - 1) 0]) ++ [2 * l.getD (l.length - 1) 0 + 1] := by simp
    rw [e]
    refine ⟨by simp, by simp; omega, ?_⟩
    rw [getD_last1, h4]
    omega
  · refine ⟨by simp, by simp; omega, ?_⟩
    rw [getD_last1, h4]
    omega
theorem BB.all (l : List Int) : ∀ i, i ≤ l.length → BB (binI l i) i := by
  intro i
  induction i with
  | zero => intro _; exact ⟨Nat.le_refl _, Nat.le_refl _, by show (0 : Int) ≤ 1 ∧ (1 : Int) ≤ 2 * 4 ^ 0 - 1; decide⟩
  | succ i ih =>
    intro hi
    rw [binI_succ (by omega)]
    exact (ih (by omega)).step _
theorem bsL_le (x : Int) : (bsL x).length ≤ 1000 := by
  cases h : isSh x with
  | false => rw [bsL_no h]; simp
  | true =>
    have r := isSh_rng h
    obtain ⟨n, rfl⟩ : ∃ n : Nat, x = n := ⟨x.toNat, by omega⟩
    rw [bsL_yes h]
    have h7 := bitsF_len 7 n
    have hl : ((bitsF 7 n).drop 1).length ≤ 7 := by rw [List.length_drop]; omega
    have := (BB.all ((bitsF 7 n).drop 1) _ (Nat.le_refl _)).len
    rw [binI_end] at this
    show (binL n).length ≤ 1000
    unfold binL
    omega

set_option maxRecDepth 100000 in
set_option maxHeartbeats 2000000 in
theorem implBin_any (x : Int) (w : World) : Calls Try.prog 43 #[.int .i64 x] w fun e w' => ∃ A' c', e = .returned (.tuple #[.slice A' (bsL x).length c', .bool (isSh x)]) ∧ OwI w' w.heap.size (.slice A' (bsL x).length c') (bsL x) ∧ Below w.heap.size w w' := by
  have hN := isShort_any x w
  cases h1 : isSh x with
  | false =>
    have E := Lib.hid (bsL_no h1)
    rw [h1] at hN
    have HN := Lib.hid hN
    clear hN h1
    go_enter Try.func43, Try.ntmps43
    go_wp2_with (go_at_call 53; refine HN.out.mono ?_; rintro e w' ⟨rfl, rfl⟩)
    go_ret2
    exact ⟨none, 0, by rw [E.out]; rfl, by rw [E.out]; exact OwI.nil _ _, Below.refl _ _⟩
  | true =>
    have r := isSh_rng h1
    obtain ⟨n, rfl⟩ : ∃ n : Nat, x = n := ⟨x.toNat, by omega⟩
    obtain ⟨Q, hQ, f2, f3, f4, _, l1, l2⟩ := bin_facts (n := n) (by omega) (by omega)
    have E := Lib.hid (bsL_yes h1)
    have hBP := fun W => implBinaryPlan_any (n : Int) W
    have hCp := fun (W : World) (R1 R2 : Option Addr) (v1 v2 : Nat) (hr : RdP W W.heap.size R1 R2 Q) => implCp_any W.heap.size R1 R2 v1 v2 Q W (Nat.le_refl _) (by omega) (by omega) hr
    rw [h1] at hN
    rw [f3, f4] at hCp
    simp only [hQ, f2] at hBP
    have HN := Lib.hid hN
    have HBP := Lib.hid hBP
    have HCp := Lib.hid hCp
    clear hN h1 hBP hCp f2 f3 f4 hQ
    go_enter Try.func43, Try.ntmps43
    go_wp2_with (first
      | (go_at_call 53; refine HN.out.mono ?_; rintro e w' ⟨rfl, rfl⟩)
      | (go_at_call 71; refine (HBP.out w).mono ?_; rintro e w2 ⟨R1, R2, v1, v2, rfl, ho2, hb2⟩; have O2 := Lib.hid ho2; have B2 := Lib.hid hb2; clear ho2 hb2))
    go_at_call 72
    generalize hw3 : World.alloc w2 _ = w3
    have hb3 : Below w2.heap.size w2 w3 := by rw [← hw3]; exact (Below.refl _ _).alloc (Nat.le_refl _) _
    clear hw3
    refine (HCp.out w3 R1 R2 v1 v2 (O2.out.below hb3).rd).mono ?_
    rintro e w4 ⟨A4, c4, rfl, hown4, hb4⟩
    go_wp2
    go_ret2
    have hs2 := B2.out.size
    have hs3 := hb3.size
    exact ⟨A4, c4, by rw [E.out]; rfl, by rw [E.out]; exact OwI.base hown4 (by omega), B2.out.trans ((hb3.mono hs2).trans (hb4.mono (by omega)))⟩

/-- A block that is not the row's stays while the row is appended to, and the new row lies elsewhere. -/
theorem app_keep {w w' : World} {o : Obj} {g g' b : Nat} (hb : b < w.heap.size) (hne : g ≠ b) (hg : (w.alloc o).grownBy w' (some g)) (hat : g = g' ∨ (w.alloc o).heap.size ≤ g') : w'.heap[b]? = w.heap[b]? ∧ g' ≠ b ∧ b < w'.heap.size := by
  have hz : (w.alloc o).heap.size = w.heap.size + 1 := by simp
  have hz2 := hg.size
  refine ⟨(hg.block b (by omega) (fun e => by injection e with e; exact hne e.symm)).trans (Below.heap_alloc w o b hb), ?_, by omega⟩
  rcases hat with h | h
  · rw [← h]; exact hne
  · omega
theorem hat_in {w1 : World} {g g2 n k : Nat} (h : (Value.slice (some ⟨g, 0, none⟩) n k).ownBlock = some g2 ∨ g2 = w1.heap.size) : g = g2 ∨ w1.heap.size ≤ g2 := by
  rcases h with h | h
  · exact .inl (by simpa [Value.ownBlock] using h)
  · exact .inr (by omega)

set_option maxRecDepth 100000 in
set_option maxHeartbeats 2000000 in
theorem specBin_any (x : Int) (w : World) : Calls Try.prog 42 #[.int .i64 x] w fun e w' => ∃ A' c', e = .returned (.tuple #[.slice A' (bsL x).length c', .bool (isSh x)]) ∧ OwI w' w.heap.size (.slice A' (bsL x).length c') (bsL x) ∧ Below w.heap.size w w' := by
  have hN := shNumber_any x w
  cases h1 : isSh x with
  | false =>
    have E := Lib.hid (bsL_no h1)
    rw [h1] at hN
    have HN := Lib.hid hN
    clear hN h1
    go_enter Try.func42, Try.ntmps42
    go_wp2_with (go_at_call 49; refine HN.out.mono ?_; rintro e w' ⟨rfl, rfl⟩)
    go_ret2
    exact ⟨none, 0, by rw [E.out]; rfl, by rw [E.out]; exact OwI.nil _ _, Below.refl _ _⟩
  | true =>
    have r := isSh_rng h1
    obtain ⟨n, rfl⟩ : ∃ n : Nat, x = n := ⟨x.toNat, by omega⟩
    have f5 : 1 ≤ (bitsF 7 n).length := by
      obtain ⟨_, _, _, _, _, h, _, _⟩ := bin_facts (n := n) (by omega) (by omega)
      exact h
    have h7 := bitsF_len 7 n
    have hdig := bits_digits n (by omega)
    have hB := shBits_any n (w.alloc (.cells #[.int .i64 1] 3)) (by omega)
    rw [h1] at hN
    have hbs := bsL_yes h1
    have hE : binI ((bitsF 7 n).drop 1) ((bitsF 7 n).drop 1).length = bsL (n : Int) := by rw [binI_end, hbs]; rfl
    have hBBs := BB.all ((bitsF 7 n).drop 1)
    obtain ⟨U, hU⟩ : ∃ U, bsL (n : Int) = U := ⟨_, rfl⟩
    rw [hU] at hE ⊢
    obtain ⟨k, hk⟩ : ∃ k, (bitsF 7 n).length = k + 1 := ⟨(bitsF 7 n).length - 1, by omega⟩
    rw [hk] at hB h7
    have hdl : ((bitsF 7 n).drop 1).length = k := by rw [List.length_drop, hk]; omega
    rw [hdl] at hE
    have hget : ∀ i, i < k → ((bitsF 7 n).drop 1).getD i 0 = (bitsF 7 n).getD (i + 1) 0 := fun i hi => by
      rw [List.getD_eq_getElem?_getD, List.getElem?_drop, ← List.getD_eq_getElem?_getD, Nat.add_comm]
    obtain ⟨D, hD⟩ : ∃ D, (bitsF 7 n).drop 1 = D := ⟨_, rfl⟩
    rw [hD] at hE hdl hget hBBs
    obtain ⟨T, hT⟩ : ∃ T, bitsF 7 n = T := ⟨_, rfl⟩
    rw [hT] at hB hk hget
    have HN := Lib.hid hN
    have HB := Lib.hid hB
    have HE := Lib.hid hE
    have HG := Lib.hid hget
    have HDL := Lib.hid hdl
    have HK := Lib.hid hk
    have HBB := Lib.hid hBBs
    have O1 := own_one (w := w) (B := w.heap.size) 1 (Nat.le_refl _)
    have HO1 := Lib.hid O1
    have i1k : (1 : Int) ≤ (k : Int) + 1 := by omega
    have hwk : IntKind.i64.wrap (k : Int) = (k : Int) := IntWalk.i64_in _ (by omega)
    clear hN h1 hB hdig hbs hE hBBs hU hk hdl hget hD hT f5 O1
    go_enter Try.func42, Try.ntmps42
    go_wp2_with (go_at_call 49; refine HN.out.mono ?_; rintro e w' ⟨rfl, rfl⟩)
    go_at_call 68
    refine HB.out.mono ?_
    rintro e w2 ⟨A2, c2, rfl, hown2, hb2⟩
    obtain ⟨g2, rfl, hgB, hg2, hc2⟩ := own_cells hown2 HK.out (by omega)
    have hgB' : w.heap.size + 1 ≤ g2 := by simpa using hgB
    clear hgB
    have hcap2 := OwI.cap hown2
    have HC2 := Lib.hid hc2
    have B2 := Lib.hid (show Below w.heap.size w w2 from ((Below.refl _ _).alloc (Nat.le_refl _) _).trans (hb2.mono (by simp)))
    have O2 := Lib.hid (OwI.below HO1.out hb2)
    have icc : (k : Int) + 1 ≤ (c2 : Int) := by have := hcap2; have := HK.out; omega
    have ic1 : (1 : Int) ≤ (c2 : Int) := by omega
    have ick : 1 ≤ c2 := by omega
    clear hown2 hb2 hc2 hcap2
    by_cases hc1 : c2 = 1
    · have hk0 : k = 0 := by omega
      subst hc1
      go_wp2
      go_loopw [4, 16] (fun ov iv wr => ∃ (i R1 : Nat) (A1 : Option Addr) (c1 : Nat), iv = .int .i64 (i : Int) ∧ ov = .slice A1 R1 c1 ∧ i ≤ k ∧ Aside (R1 = (binI D i).length ∧ OwI wr w.heap.size (.slice A1 R1 c1) (binI D i) ∧ Below w.heap.size w wr ∧ BB (binI D i) i ∧ wr.heap[g2]? = w2.heap[g2]? ∧ (∀ g, A1 = some ⟨g, 0, none⟩ → g ≠ g2) ∧ g2 < wr.heap.size)) (fun _ iv _ => k - (intOf iv).toNat)
      case atStart => exact ⟨0, 1, _, _, rfl, rfl, by omega, rfl, O2.out, B2.out, HBB.out 0 (by omega), rfl, fun g e => by injection e with e; injection e with e; omega, hg2⟩
      case round =>
        obtain ⟨i, R1, A1, c1, rfl, rfl, hi, AS⟩ := hrel
        have HR1 := Lib.hid AS.out.1
        have OWN := Lib.hid AS.out.2.1
        have BEL := Lib.hid AS.out.2.2.1
        have HBI := Lib.hid AS.out.2.2.2.1
        have HG2 := Lib.hid AS.out.2.2.2.2.1
        have HNE := Lib.hid AS.out.2.2.2.2.2.1
        have hg2r := AS.out.2.2.2.2.2.2
        have hs := AS.out.2.2.1.size
        clear AS
        have e : i = k := by omega
        subst e
        have hr1 := HR1.out
        rw [HE.out] at hr1
        subst hr1
        go_wp2
        go_ret2
        refine ⟨A1, c1, rfl, ?_, BEL.out⟩
        have := OWN.out
        rw [HE.out] at this
        exact this
    · go_wp2
      go_loopw [4, 16] (fun ov iv wr => ∃ (i R1 : Nat) (A1 : Option Addr) (c1 : Nat), iv = .int .i64 (i : Int) ∧ ov = .slice A1 R1 c1 ∧ i ≤ k ∧ Aside (R1 = (binI D i).length ∧ OwI wr w.heap.size (.slice A1 R1 c1) (binI D i) ∧ Below w.heap.size w wr ∧ BB (binI D i) i ∧ wr.heap[g2]? = w2.heap[g2]? ∧ (∀ g, A1 = some ⟨g, 0, none⟩ → g ≠ g2) ∧ g2 < wr.heap.size)) (fun _ iv _ => k - (intOf iv).toNat)
      case atStart => exact ⟨0, 1, _, _, rfl, rfl, by omega, rfl, O2.out, B2.out, HBB.out 0 (by omega), rfl, fun g e => by injection e with e; injection e with e; omega, hg2⟩
      case round =>
        obtain ⟨i, R1, A1, c1, rfl, rfl, hi, AS⟩ := hrel
        have HR1 := Lib.hid AS.out.1
        have OWN := Lib.hid AS.out.2.1
        have BEL := Lib.hid AS.out.2.2.1
        have HBI := Lib.hid AS.out.2.2.2.1
        have HG2 := Lib.hid AS.out.2.2.2.2.1
        have HNE := Lib.hid AS.out.2.2.2.2.2.1
        have hg2r := AS.out.2.2.2.2.2.2
        have hs := AS.out.2.2.1.size
        clear AS
        by_cases hlt : i < k
        · have iik : (i : Int) < (k : Int) := by omega
          have hcd : wr.cell? ⟨g2, 1 + i, none⟩ = some (.int .i64 (T.getD (i + 1) 0)) := (cell_heap (p := ⟨g2, 1 + i, none⟩) HG2.out).trans (by rw [Nat.add_comm 1 i]; exact HC2.out (i + 1) (by omega))
          rw [← HG.out i hlt] at hcd
          have hsucc := binI_succ (l := D) (i := i) (by rw [HDL.out]; exact hlt)
          have hdi : D[i]'(by rw [HDL.out]; exact hlt) = D.getD i 0 := by rw [List.getD_eq_getElem?_getD, List.getElem?_eq_getElem (by rw [HDL.out]; exact hlt)]; rfl
          rw [hdi] at hsucc
          obtain ⟨d, hd⟩ : ∃ d, D.getD i 0 = d := ⟨_, rfl⟩
          rw [hd] at hcd hsucc
          have hpos := HBI.out.pos
          have hbl := HBI.out.len
          have hbb := HBI.out.bd
          rw [← HR1.out] at hpos hbl hbb
          obtain ⟨M, hM⟩ : ∃ M, R1 = M + 1 := ⟨R1 - 1, by omega⟩
          obtain ⟨gA, hgA, _, hgl, hcA⟩ := own_cells OWN.out HR1.out.symm (by omega)
          subst hgA
          have clast := hcA M (by omega)
          have hgne : gA ≠ g2 := HNE.out gA rfl
          have h46 : (4 : Int) ^ i ≤ 4096 := by
            have h1 : 4 ^ i ≤ 4 ^ 6 := Nat.pow_le_pow_right (by decide) (by omega)
            have h2 : ((4 ^ i : Nat) : Int) = (4 : Int) ^ i := by push_cast; rfl
            have h3 : (4 : Nat) ^ 6 = 4096 := rfl
            omega
          rw [show R1 - 1 = M by omega] at hbb
          obtain ⟨y, hy⟩ : ∃ y, (binI D i).getD M 0 = y := ⟨_, rfl⟩
          rw [hy] at clast hbb
          have hst : binS (binI D i) d = if d = 1 then binI D i ++ [2 * y, 2 * y + 1] else binI D i ++ [2 * y] := by
            unfold binS
            rw [show (binI D i).length - 1 = M by rw [← HR1.out]; omega, hy]
          have hw1 : IntKind.i64.wrap ((R1 : Int) - 1) = (M : Int) := by rw [IntWalk.i64_in _ (by omega)]; omega
          have hw2 : IntKind.i64.wrap (2 * y) = 2 * y := IntWalk.i64_in _ (by omega)
          have hw3 : IntKind.i64.wrap (2 * y + 1) = 2 * y + 1 := IntWalk.i64_in _ (by omega)
          have iMR : (M : Int) < (R1 : Int) := by omega
          have HST := Lib.hid hst
          have HSU := Lib.hid hsucc
          have HBN := Lib.hid (HBI.out.step d)
          clear hcA hpos hbb h46 hy hst hsucc hd hdi hM
          by_cases hd1 : d = 1
          · have hst := HST.out
            rw [if_pos hd1] at hst
            have HST2 := Lib.hid (show binI D (i + 1) = (binI D i ++ [2 * y]) ++ [2 * y + 1] by rw [HSU.out, hst]; simp)
            have HBN2 := Lib.hid (show BB (binI D (i + 1)) (i + 1) by rw [HSU.out]; exact HBN.out)
            clear hst
            subst hd1
            go_wp2_with (first
              | (at_builtin; refine wpList_app_intH rfl (.tmp 26) (.tmp 29) rfl w.heap.size R1 _ (binI D i) rfl (OwI.alloc OWN.out _) HR1.out.symm wr.heap.size 1 (2 * y) rfl (by rw [World.cell?_alloc_at _ _ _ _ rfl]; rfl) (by omega) (by simp; omega) ?_; intro g6 c6 w6 hown6 hg6 hbel6 hat6; have N6 := Lib.hid (app_keep hg2r hgne hg6 (hat_in hat6)); have O6 := Lib.hid hown6; have B6 := Lib.hid ((BEL.out.alloc hs _).trans hbel6); have hs6 : w.heap.size ≤ w6.heap.size := B6.out.size; clear hown6 hbel6 hg6 hat6)
              | (at_builtin; refine wpList_app_intH rfl (.tmp 33) (.tmp 37) rfl w.heap.size (R1 + 1) _ (binI D i ++ [2 * y]) rfl (OwI.alloc O6.out _) (by rw [List.length_append, ← HR1.out]; rfl) w6.heap.size 1 (2 * y + 1) rfl (by rw [World.cell?_alloc_at _ _ _ _ rfl]; rfl) (by omega) (by simp; omega) ?_; intro g7 c7 w7 hown7 hg7 hbel7 hat7))
            have N7 := app_keep N6.out.2.2 N6.out.2.1 hg7 (hat_in hat7)
            go_roundw
            case rel => exact ⟨i + 1, R1 + 1 + 1, _, c7, by go_num, rfl, by omega, by rw [HST2.out, List.length_append, List.length_append, ← HR1.out]; rfl, by rw [HST2.out]; exact hown7, (B6.out.alloc hs6 _).trans hbel7, HBN2.out, (N7.1.trans N6.out.1).trans HG2.out, fun g e => by injection e with e; injection e with e; subst e; exact N7.2.1, N7.2.2⟩
            case measure => simp [intOf]; omega
          · have hdb : (d == 1) = false := by simpa using hd1
            have hst := HST.out
            rw [if_neg hd1] at hst
            have HST2 := Lib.hid (show binI D (i + 1) = binI D i ++ [2 * y] by rw [HSU.out, hst])
            have HBN2 := Lib.hid (show BB (binI D (i + 1)) (i + 1) by rw [HSU.out]; exact HBN.out)
            clear hst hd1
            go_wp2_with (at_builtin; refine wpList_app_intH rfl (.tmp 26) (.tmp 29) rfl w.heap.size R1 _ (binI D i) rfl (OwI.alloc OWN.out _) HR1.out.symm wr.heap.size 1 (2 * y) rfl (by rw [World.cell?_alloc_at _ _ _ _ rfl]; rfl) (by omega) (by simp; omega) ?_; intro g6 c6 w6 hown6 hg6 hbel6 hat6; have N6 := Lib.hid (app_keep hg2r hgne hg6 (hat_in hat6)); have O6 := Lib.hid hown6; have B6 := Lib.hid ((BEL.out.alloc hs _).trans hbel6); have hs6 : w.heap.size ≤ w6.heap.size := B6.out.size; clear hown6 hbel6 hg6 hat6)
            go_roundw
            case rel => exact ⟨i + 1, R1 + 1, _, c6, by go_num, rfl, by omega, by rw [HST2.out, List.length_append, ← HR1.out]; rfl, by rw [HST2.out]; exact O6.out, B6.out, HBN2.out, N6.out.1.trans HG2.out, fun g e => by injection e with e; injection e with e; subst e; exact N6.out.2.1, N6.out.2.2⟩
            case measure => simp [intOf]; omega
        have e : i = k := by omega
        subst e
        have hr1 := HR1.out
        rw [HE.out] at hr1
        subst hr1
        go_wp2
        go_ret2
        refine ⟨A1, c1, rfl, ?_, BEL.out⟩
        have := OWN.out
        rw [HE.out] at this
        exact this
end Go.Proofs.Ytppahohakiidmaa
