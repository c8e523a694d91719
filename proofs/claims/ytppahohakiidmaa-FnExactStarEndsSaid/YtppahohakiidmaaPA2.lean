/- Joined: Qt Qp Qu Qv Qw Hs Ht. -/
import Derived.Test.YtppahohakiidmaaPA1
/- A number put into a rising list. -/
namespace Go.Proofs.Ytppahohakiidmaa
open Go.RowKit

theorem insert_any (B0 : Nat) (A : Option Addr) (c n i : Nat) (x : Int) (vb vc : Nat) (l : List Int) (w : World) (hln : l.length = n) (hi : i ≤ n) (hn : n ≤ 1000) (hB : B0 ≤ w.heap.size)
    (hown : w.ownsRow B0 3 1 (.slice A n c) n (l.map I)) (hv : w.heap[vb]? = some (.cells #[I x] 3 (0, 0))) (hne : (Value.slice A n c).ownBlock ≠ some vb) :
    Calls Try.prog 85 #[.slice A n c, .int .i64 i, .slice (some ⟨vb, 0, none⟩) 1 vc] w fun e w' =>
      ∃ A' c', e = .returned (.slice A' (n + 1) c') ∧ w'.ownsRow B0 3 1 (.slice A' (n + 1) c') (n + 1) ((insA l i x).map I) ∧ Below B0 w w' := by
  by_cases h : i = n
  · subst h
    exact insert_end B0 A c i x vb vc l w hln hn hB hown (by unfold World.cell?; rw [hv]; simp)
  · obtain ⟨g, rfl, _, _, _, _⟩ := own_at hown (by omega)
    by_cases hc : n + 1 ≤ c
    · exact insert_room B0 g c n i x vb vc l w hln (by omega) hn hc hown hv (fun h => hne (by rw [h]; rfl))
    · exact insert_grow B0 g c n i x vb vc l w hln (by omega) hn (by omega) hB hown hv

/-- The list with x at its place. -/
def putI (l : List Int) (x : Int) : List Int := if x ∈ l then l else insA l (cnt l x) x
theorem putI_has {l : List Int} {x : Int} (h : x ∈ l) : putI l x = l := by unfold putI; rw [if_pos h]
theorem putI_new {l : List Int} {x : Int} (h : ¬ x ∈ l) : putI l x = insA l (cnt l x) x := by unfold putI; rw [if_neg h]
theorem cnt_le (l : List Int) (x : Int) : cnt l x ≤ l.length := List.countP_le_length
theorem putI_le (l : List Int) (x : Int) : (putI l x).length ≤ l.length + 1 := by
  unfold putI
  split
  · omega
  · rw [insA_length l x (cnt_le l x)]; omega
theorem insA_getD (l : List Int) {i : Nat} (x : Int) (hi : i ≤ l.length) (j : Nat) : (insA l i x).getD j 0 = if j < i then l.getD j 0 else if j = i then x else l.getD (j - 1) 0 := by
  unfold insA
  rw [List.getD_eq_getElem?_getD]
  by_cases h1 : j < i
  · rw [if_pos h1, List.getElem?_append_left (by simp; omega), List.getElem?_take, if_pos h1, List.getD_eq_getElem?_getD]
  · rw [if_neg h1, List.getElem?_append_right (by simp; omega)]
    have e : (List.take i l).length = i := by simp; omega
    rw [e]
    by_cases h2 : j = i
    · subst h2
      simp
    · rw [if_neg h2, show j - i = (j - i - 1) + 1 by omega, List.getElem?_cons_succ, List.getElem?_drop, List.getD_eq_getElem?_getD, show i + (j - i - 1) = j - 1 by omega]
/-- What lies before the place is less, what lies behind it greater. -/
theorem cnt_parts {l : List Int} (ha : Asc l) (x : Int) : (∀ t, t < cnt l x → l.getD t 0 < x) ∧ ∀ t, cnt l x ≤ t → t < l.length → x ≤ l.getD t 0 := by
  have key : ∀ n, n ≤ l.length → ∃ i, i ≤ n ∧ (∀ t, t < i → l.getD t 0 < x) ∧ ∀ t, i ≤ t → t < n → x ≤ l.getD t 0 := by
    intro n
    induction n with
    | zero => intro _; exact ⟨0, by omega, fun t h => absurd h (by omega), fun t _ h => absurd h (by omega)⟩
    | succ n ih =>
      intro hn
      obtain ⟨i, h1, h2, h3⟩ := ih (by omega)
      by_cases hi : i = n
      · by_cases hx : l.getD n 0 < x
        · refine ⟨n + 1, by omega, fun t ht => ?_, fun t h h' => absurd h (by omega)⟩
          rcases Nat.lt_or_eq_of_le (Nat.le_of_lt_succ ht) with h | rfl
          · exact h2 t (by omega)
          · exact hx
        · refine ⟨i, by omega, h2, fun t h h' => ?_⟩
          have : t = n := by omega
          subst this
          omega
      · refine ⟨i, by omega, h2, fun t h h' => ?_⟩
        rcases Nat.lt_or_eq_of_le (Nat.le_of_lt_succ h') with h'' | rfl
        · exact h3 t h h''
        · have := h3 i (Nat.le_refl _) (by omega)
          have := ha i t (by omega) (by omega)
          omega
  obtain ⟨i, h1, h2, h3⟩ := key l.length (Nat.le_refl _)
  rw [cnt_at h1 h2 h3]
  exact ⟨h2, h3⟩
theorem mem_getD {l : List Int} {t : Nat} (h : t < l.length) : l.getD t 0 ∈ l := by
  have e : l.getD t 0 = l[t] := by simp [h]
  rw [e]
  exact List.getElem_mem h
theorem putI_asc {l : List Int} (ha : Asc l) (x : Int) : Asc (putI l x) := by
  by_cases hx : x ∈ l
  · rw [putI_has hx]; exact ha
  · rw [putI_new hx]
    obtain ⟨h1, h2⟩ := cnt_parts ha x
    have hc := cnt_le l x
    intro i j hij hj
    rw [insA_length l x hc] at hj
    rw [insA_getD l x hc, insA_getD l x hc]
    have h3 : ∀ t, cnt l x ≤ t → t < l.length → x < l.getD t 0 := fun t h h' => by
      have := h2 t h h'
      rcases Int.lt_or_eq_of_le this with h4 | h4
      · exact h4
      · exact absurd (h4 ▸ mem_getD h') hx
    by_cases c1 : i < cnt l x
    · rw [if_pos c1]
      by_cases c2 : j < cnt l x
      · rw [if_pos c2]; exact ha i j hij (by omega)
      · rw [if_neg c2]
        by_cases c3 : j = cnt l x
        · rw [if_pos c3]; exact h1 i c1
        · rw [if_neg c3]; exact ha i (j - 1) (by omega) (by omega)
    · rw [if_neg c1, if_neg (by omega : ¬ j < cnt l x), if_neg (by omega : ¬ j = cnt l x)]
      by_cases c3 : i = cnt l x
      · rw [if_pos c3]; exact h3 (j - 1) (by omega) (by omega)
      · rw [if_neg c3]; exact ha (i - 1) (j - 1) (by omega) (by omega)

set_option maxRecDepth 100000 in
set_option maxHeartbeats 2000000 in
theorem with_any (B : Nat) (A : Option Addr) (c : Nat) (l : List Int) (x : Int) (w : World) (hm : l.length ≤ 500) (ha : Asc l) (hA : l = [] → A = none ∧ c = 0) (hB : B ≤ w.heap.size) (hr : Rd w B 1 A l.length (l.map I)) :
    Calls Try.prog 65 #[.slice A l.length c, .int .i64 x] w fun e w' =>
      ∃ A' c', e = .returned (.slice A' (putI l x).length c') ∧ OwI w' w.heap.size (.slice A' (putI l x).length c') (putI l x) ∧ Below w.heap.size w w' := by
  have hcl : Calls Try.prog 83 #[.slice A l.length c] w fun e w' => ∃ A' c', e = .returned (.slice A' l.length c') ∧ OwI w' w.heap.size (.slice A' l.length c') l ∧ Below w.heap.size w w' := by
    by_cases h0 : 0 < l.length
    · exact cloneA_any B A c l w (by omega) h0 hB hr
    · have hl : l = [] := List.eq_nil_of_length_eq_zero (by omega)
      obtain ⟨rfl, rfl⟩ := hA hl
      subst hl
      refine (cloneA_nil w).mono ?_
      rintro e w' ⟨rfl, rfl⟩
      exact ⟨none, 0, rfl, OwI.nil _ _, Below.refl _ _⟩
  have hF := fun (W : World) (hb : Below w.heap.size w W) => find_any B A c l x W (by omega) ha (hr.below' hb hB)
  have hcx := cnt_le l x
  obtain ⟨a, haa⟩ : ∃ a, cnt l x = a := ⟨_, rfl⟩
  rw [haa] at hF hcx
  have HCL := Lib.hid hcl
  have AA := Lib.hid haa
  clear hcl hr ha hA haa
  by_cases hx : x ∈ l
  · rw [decide_eq_true hx] at hF
    have P := Lib.hid (putI_has hx)
    have HF := Lib.hid hF
    clear hF hx
    go_enter Try.func65, Try.ntmps65
    go_wp2_with (first
      | (go_at_call 83; refine HCL.out.mono ?_; rintro e w2 ⟨A2, c2, rfl, hown2, hb2⟩; have OW2 := Lib.hid hown2; have HB2 := Lib.hid hb2; clear hown2 hb2)
      | (go_at_call 84; refine (HF.out w2 HB2.out).mono ?_; rintro e w3 ⟨rfl, ⟨nd, rfl⟩⟩))
    go_ret
    exact ⟨A2, c2, by rw [P.out]; rfl, by rw [P.out]; exact OwI.drewN OW2.out nd, bDrewN HB2.out nd⟩
  · rw [decide_eq_false hx] at hF
    have P := Lib.hid (putI_new hx)
    have HF := Lib.hid hF
    clear hF hx
    obtain ⟨N, hN⟩ : ∃ N, l.length = N := ⟨_, rfl⟩
    have HN := Lib.hid hN
    have hNb : N ≤ 500 := by omega
    have haN : a ≤ N := by omega
    have HCL' := HCL.out
    have HF' := HF.out
    rw [hN] at HCL' HF'
    rw [hN]
    have C1 := Lib.hid HCL'
    have F1 := Lib.hid HF'
    clear HCL' HF' HCL HF hN hm hcx
    go_enter Try.func65, Try.ntmps65
    go_wp2_with (first
      | (go_at_call 83; refine C1.out.mono ?_; rintro e w2 ⟨A2, c2, rfl, hown2, hb2⟩; have OW2 := Lib.hid (show w2.ownsRow w.heap.size 3 1 (.slice A2 N c2) N (l.map I) from (by have h := hown2; unfold OwI at h; rw [HN.out] at h; exact h)); have HB2 := Lib.hid hb2; have hs2 : w.heap.size ≤ w2.heap.size := hb2.size; clear hown2 hb2)
      | (go_at_call 84; refine (F1.out w2 HB2.out).mono ?_; rintro e w3 ⟨rfl, ⟨nd, rfl⟩⟩))
    go_at_call 85
    generalize hw4 : World.alloc _ _ = w4
    have hg4 : w4.heap[w2.heap.size]? = some (.cells #[I x] 3 (0, 0)) := by rw [← hw4]; exact Array.getElem?_push_size
    have hb4 : Below w2.heap.size w2 w4 := by rw [← hw4]; exact (bDrewN (Below.refl _ _) nd).alloc (Nat.le_refl _) _
    clear hw4
    have hown4 := own_below OW2.out hb4
    have hne : (Value.slice A2 N c2).ownBlock ≠ some w2.heap.size := fun h => by
      have := (own_block OW2.out _ h).2
      omega
    refine (insert_any w.heap.size A2 c2 N a x w2.heap.size 1 l w4 HN.out haN (by omega) (by have := hb4.size; omega) hown4 hg4 hne).mono ?_
    rintro e w5 ⟨A5, c5, rfl, hown5, hb5⟩
    have hpl : (putI l x).length = N + 1 := by rw [P.out, AA.out, insA_length l x (by have := HN.out; omega), HN.out]
    have HB5 := Lib.hid ((HB2.out.trans (hb4.mono hs2)).trans hb5)
    have OW5 := Lib.hid (show OwI w5 w.heap.size (.slice A5 (N + 1) c5) (putI l x) from (by unfold OwI; rw [hpl, P.out, AA.out]; exact hown5))
    have HPL := Lib.hid hpl
    clear hown5 hb5 hown4 hb4 hg4 hne hpl
    go_wp2
    go_ret
    exact ⟨A5, c5, by rw [HPL.out]; rfl, by rw [HPL.out]; exact OW5.out, HB5.out⟩
end Go.Proofs.Ytppahohakiidmaa
/- What is in both of two chains. -/
namespace Go.Proofs.Ytppahohakiidmaa
open Go.RowKit

theorem hasI_mem (l : List Int) (n : Int) : hasI l n = decide (n ∈ l) := by unfold hasI; exact List.contains_eq_mem n l
def metK (a b : List Int) (k : Nat) : List Int := (a.take k).filter fun n => hasI b n
def met (a b : List Int) : List Int := a.filter fun n => hasI b n
theorem metK_end (a b : List Int) : metK a b a.length = met a b := by unfold metK met; rw [List.take_length]
theorem metK_hit {a b : List Int} {k : Nat} (hk : k < a.length) (h : hasI b (a.getD k 0) = true) : metK a b (k + 1) = metK a b k ++ [a.getD k 0] := by
  unfold metK
  rw [take_succ_getD hk, List.filter_append]
  simp only [List.filter_cons, List.filter_nil, h]
  rfl
theorem metK_miss {a b : List Int} {k : Nat} (hk : k < a.length) (h : hasI b (a.getD k 0) = false) : metK a b (k + 1) = metK a b k := by
  unfold metK
  rw [take_succ_getD hk, List.filter_append]
  simp only [List.filter_cons, List.filter_nil, h]
  simp
theorem metK_le (a b : List Int) (k : Nat) : (metK a b k).length ≤ k := by
  unfold metK
  exact Nat.le_trans (List.length_filter_le _ _) (by simp; omega)
theorem met_le (a b : List Int) : (met a b).length ≤ a.length := List.length_filter_le _ _
def meG (a b : List Int) : Bool := (chG a && chG b) && chG (met a b)

end Go.Proofs.Ytppahohakiidmaa
/- A number put into a rising list, by the model. -/
namespace Go.Proofs.Ytppahohakiidmaa
open Go.RowKit

theorem Rd.drop {w : World} {B : Nat} {b off k : Nat} {l : List Int} (h : Rd w B 1 (some ⟨b, off, none⟩) l.length (l.map I)) (hk : k < l.length) : Rd w B 1 (some ⟨b, off + k, none⟩) (l.length - k) ((l.drop k).map I) := by
  refine ⟨by simp, fun _ => ?_⟩
  obtain ⟨b', off', e, hb, hc⟩ := h.2 (by omega)
  simp only [Option.some.injEq, Addr.mk.injEq, and_true] at e
  obtain ⟨rfl, rfl⟩ := e
  refine ⟨b, off + k, rfl, hb, fun j hj => ?_⟩
  rw [Nat.add_assoc, hc (k + j) (by omega), List.map_drop, List.getElem?_drop]
theorem put_below2 {B : Nat} {w : World} {o1 o2 : Obj} {w2 w3 : World} (hB : B ≤ w.heap.size) (h2 : Below B (w.alloc o1) w2) (h3 : Below B (w2.alloc o2) w3) : Below B w w3 := by
  have h1 : Below B w w2 := ((Below.refl _ _).alloc hB _).trans h2
  exact (h1.alloc (Nat.le_trans hB h1.size) _).trans h3

set_option maxRecDepth 100000 in
set_option maxHeartbeats 2000000 in
theorem l1PutN_any (B : Nat) (A : Option Addr) (c : Nat) (l : List Int) (x : Int) (w : World) (hm : l.length ≤ 1000) (ha : Asc l) (hx : ¬ x ∈ l) (hcap : l.length ≤ c) (hB : B ≤ w.heap.size) (hr : Rd w B 1 A l.length (l.map I)) :
    Calls Try.prog 82 #[.slice A l.length c, .int .i64 x] w fun e w' => ∃ A' c', e = .returned (.slice A' (putI l x).length c') ∧ OwI w' w.heap.size (.slice A' (putI l x).length c') (putI l x) ∧ Below w.heap.size w w' := by
  have H := Lib.hid hr
  obtain ⟨p1, p2⟩ := cnt_parts ha x
  have P1 := Lib.hid p1
  have P2 := Lib.hid p2
  have hcx := cnt_le l x
  have P := Lib.hid (putI_new hx)
  have hpl : (putI l x).length = l.length + 1 := by rw [P.out, insA_length l x hcx]
  have HPL := Lib.hid hpl
  have HX := Lib.hid hx
  obtain ⟨a, haa⟩ : ∃ a, cnt l x = a := ⟨_, rfl⟩
  rw [haa] at hcx
  have AA := Lib.hid haa
  have HAS := Lib.hid ha
  clear hr p1 p2 hpl hx haa ha
  have hbig : (l.length : Int) ≤ 1000 := by omega
  go_enter Try.func82, Try.ntmps82
  go_wp2
  go_loop [5] (fun i => ∃ k : Nat, k ≤ a ∧ i = .int .i64 k) (fun i => a - (intOf i).toNat)
  case atStart => exact ⟨0, by omega, rfl⟩
  case round =>
    obtain ⟨k, hk, rfl⟩ := hrel
    by_cases hka : k < a
    · obtain ⟨b, off, rfl, hb, hc⟩ := H.out.cells (by omega)
      have ck := hc k (by omega)
      have hlt : l.getD k 0 < x := P1.out k (by rw [AA.out]; exact hka)
      obtain ⟨y, hy⟩ : ∃ y, l.getD k 0 = y := ⟨_, rfl⟩
      rw [hy] at ck hlt
      have ik : (k : Int) < (l.length : Int) := by omega
      clear hc hy
      go_wp2
      go_round
      case rel => exact ⟨k + 1, by omega, by go_num⟩
      case measure => simp [intOf]; omega
    · have e : k = a := by omega
      subst e
      have ikc : (k : Int) ≤ (c : Int) := by omega
      have hins : (insA l k x).map I = (l.take k).map I ++ [I x] ++ (l.drop k).map I := by unfold insA; rw [List.map_append, List.map_cons]; simp
      have HINS := Lib.hid hins
      clear hins
      by_cases hl : k < l.length
      · obtain ⟨b, off, rfl, hb, hc⟩ := H.out.cells (by omega)
        have ck := hc k hl
        have hge := P2.out k (by rw [AA.out]; exact Nat.le_refl _) hl
        obtain ⟨y, hy⟩ : ∃ y, l.getD k 0 = y := ⟨_, rfl⟩
        have hne : ¬ y = x := fun h => HX.out (by rw [← h, ← hy]; exact mem_getD hl)
        rw [hy] at ck hge
        have h1 : ¬ y < x := by omega
        have hyx : (y == x) = false := by simpa using hne
        have ik : (k : Int) < (l.length : Int) := by omega
        have ikl : (k : Int) ≤ (l.length : Int) := by omega
        have hcn : ¬ (c = k) := by omega
        have T1 := Lib.hid (fun (W : World) (hb : Below w.heap.size w W) => (H.out.below' hb hB).take (n := k) (by omega))
        have T2 := Lib.hid (fun (W : World) (hb : Below w.heap.size w W) => (H.out.below' hb hB).drop hl)
        clear hc hy hge hne
        go_wp2_with (first
          | (at_builtin; refine list_step (fun K hK => ?_); refine step_appM Try.underlying22 info_int rfl (by omega) (by omega) rfl (.tmp 34) (.tmp 37) rfl w.heap.size 0 _ [] rfl (own_empty 1 (Nat.le_refl _)) _ k _ ((l.take k).map I) rfl (T1.out _ ((Below.refl _ _).alloc (Nat.le_refl _) _)) (ints_one _) (by omega) (by simp) ?_; intro A2 c2 w2 hown2 hg2 hbel2; simp only [Nat.zero_add, List.nil_append] at hown2; go_simp; refine hK _ _ ?_; clear hK K)
          | (at_builtin; refine list_step (fun K hK => ?_); refine step_app1 Try.underlying22 info_int rfl (by omega) rfl (.tmp 39) (.tmp 41) rfl w.heap.size _ _ _ rfl (World.ownsRow.alloc hown2 _) w2.heap.size 1 (I x) rfl (by simp) rfl (by omega) (by have := hbel2.size; simp at this; simp; omega) ?_; intro A3 c3 w3 hown3 hg3 hbel3; go_simp; refine hK _ _ ?_; clear hK K)
          | (at_builtin; refine list_step (fun K hK => ?_); have hb23 := put_below2 (Nat.le_refl _) hbel2 hbel3; refine step_appM Try.underlying22 info_int rfl (by omega) (by omega) rfl (.tmp 43) (.tmp 46) rfl w.heap.size _ _ _ rfl hown3 _ (l.length - k) _ ((l.drop k).map I) rfl (T2.out _ hb23) (ints_one _) (by omega) hb23.size ?_; intro A4 c4 w4 hown4 hg4 hbel4; go_simp; refine hK _ _ ?_; clear hK K))
        go_ret
        refine ⟨A4, c4, ret_slice (by have := HPL.out; omega), ?_, (put_below2 (Nat.le_refl _) hbel2 hbel3).trans hbel4⟩
        have h := hown4
        rw [show k + 1 + (l.length - k) = (putI l x).length by have := HPL.out; omega] at h
        unfold OwI
        rw [P.out, AA.out, HINS.out] at *
        simpa using h
      · have e : k = l.length := by omega
        have T1 := Lib.hid (fun (W : World) (hb : Below w.heap.size w W) => (H.out.below' hb hB).take (n := k) (by omega))
        have HE := Lib.hid e
        have hfin : ∀ (A4 : Option Addr) (c4 : Nat) (w4 : World), w4.ownsRow w.heap.size 3 1 (.slice A4 (k + 1 + 0) c4) (k + 1 + 0) ((l.take k).map I ++ [I x] ++ []) → OwI w4 w.heap.size (.slice A4 (putI l x).length c4) (putI l x) := fun A4 c4 w4 h => by
          rw [show k + 1 + 0 = (putI l x).length by have := HPL.out; have := HE.out; omega] at h
          unfold OwI
          have hd : l.drop k = [] := List.drop_of_length_le (by have := HE.out; omega)
          have hi := HINS.out
          rw [hd] at hi
          rw [P.out, AA.out, hi] at *
          simpa using h
        have FIN := Lib.hid hfin
        obtain ⟨N, hN⟩ : ∃ N, l.length = N := ⟨_, rfl⟩
        rw [hN] at e
        subst e
        rw [hN] at *
        have HN := Lib.hid hN
        clear hfin hN
        have hsl : ∀ n : Nat, n - n = 0 := fun n => Nat.sub_self n
        by_cases hck : c = k
        · subst hck
          go_wp2_with (first
            | (at_builtin; refine list_step (fun K hK => ?_); refine step_appM Try.underlying22 info_int rfl (by omega) (by omega) rfl (.tmp 34) (.tmp 37) rfl w.heap.size 0 _ [] rfl (own_empty 1 (Nat.le_refl _)) _ c _ ((l.take c).map I) rfl (T1.out _ ((Below.refl _ _).alloc (Nat.le_refl _) _)) (ints_one _) (by omega) (by simp) ?_; intro A2 c2 w2 hown2 hg2 hbel2; simp only [Nat.zero_add, List.nil_append] at hown2; go_simp; refine hK _ _ ?_; clear hK K)
            | (at_builtin; refine list_step (fun K hK => ?_); refine step_app1 Try.underlying22 info_int rfl (by omega) rfl (.tmp 39) (.tmp 41) rfl w.heap.size _ _ _ rfl (World.ownsRow.alloc hown2 _) w2.heap.size 1 (I x) rfl (by simp) rfl (by omega) (by have := hbel2.size; simp at this; simp; omega) ?_; intro A3 c3 w3 hown3 hg3 hbel3; go_simp; refine hK _ _ ?_; clear hK K)
            | (at_builtin; refine list_step (fun K hK => ?_); have hb23 := put_below2 (Nat.le_refl _) hbel2 hbel3; refine step_appM Try.underlying22 info_int rfl (by omega) (by omega) rfl (.tmp 43) (.tmp 46) rfl w.heap.size _ _ _ rfl hown3 _ 0 _ [] rfl (Rd.nil _ 0 _ _) (by simp) (by omega) hb23.size ?_; intro A4 c4 w4 hown4 hg4 hbel4; go_simp; refine hK _ _ ?_; clear hK K))
          all_goals
            go_ret
            exact ⟨A4, c4, ret_slice (by have := HPL.out; have := HE.out; omega), FIN.out A4 c4 w4 hown4, (put_below2 (Nat.le_refl _) hbel2 hbel3).trans hbel4⟩
        · have hck' : ¬ (k = c) := fun h => hck h.symm
          go_wp2_with (first
            | (at_builtin; refine list_step (fun K hK => ?_); refine step_appM Try.underlying22 info_int rfl (by omega) (by omega) rfl (.tmp 34) (.tmp 37) rfl w.heap.size 0 _ [] rfl (own_empty 1 (Nat.le_refl _)) _ k _ ((l.take k).map I) rfl (T1.out _ ((Below.refl _ _).alloc (Nat.le_refl _) _)) (ints_one _) (by omega) (by simp) ?_; intro A2 c2 w2 hown2 hg2 hbel2; simp only [Nat.zero_add, List.nil_append] at hown2; go_simp; refine hK _ _ ?_; clear hK K)
            | (at_builtin; refine list_step (fun K hK => ?_); refine step_app1 Try.underlying22 info_int rfl (by omega) rfl (.tmp 39) (.tmp 41) rfl w.heap.size _ _ _ rfl (World.ownsRow.alloc hown2 _) w2.heap.size 1 (I x) rfl (by simp) rfl (by omega) (by have := hbel2.size; simp at this; simp; omega) ?_; intro A3 c3 w3 hown3 hg3 hbel3; go_simp; refine hK _ _ ?_; clear hK K)
            | (at_builtin; refine list_step (fun K hK => ?_); have hb23 := put_below2 (Nat.le_refl _) hbel2 hbel3; refine step_appM Try.underlying22 info_int rfl (by omega) (by omega) rfl (.tmp 43) (.tmp 46) rfl w.heap.size _ _ _ rfl hown3 _ 0 _ [] rfl (Rd.nil _ 0 _ _) (by simp) (by omega) hb23.size ?_; intro A4 c4 w4 hown4 hg4 hbel4; go_simp; refine hK _ _ ?_; clear hK K))
          all_goals
            go_ret
            exact ⟨A4, c4, ret_slice (by have := HPL.out; have := HE.out; omega), FIN.out A4 c4 w4 hown4, (put_below2 (Nat.le_refl _) hbel2 hbel3).trans hbel4⟩
end Go.Proofs.Ytppahohakiidmaa
/- A number put into a chain. -/
namespace Go.Proofs.Ytppahohakiidmaa
open Go.RowKit

theorem mem_putI (l : List Int) (x : Int) : x ∈ putI l x := by
  unfold putI
  split
  · assumption
  · unfold insA
    exact List.mem_append_right _ List.mem_cons_self
theorem chG_mem {r : List Int} {x : Int} (h : chG r = true) (hx : x ∈ r) : isNum x = true := by
  obtain ⟨i, hi, rfl⟩ := List.mem_iff_getElem.1 hx
  have h1 := (chG_chn h).rng i hi
  have e : r.getD i 0 = r[i] := by simp [hi]
  rw [e] at h1
  unfold isNum inB
  simpa using h1
def inG (l : List Int) (x : Int) : Bool := (chG l && !hasI l x) && chG (putI l x)
theorem hasI_not {l : List Int} {x : Int} (h : hasI l x = false) : ¬ x ∈ l := by rw [hasI_mem] at h; simpa using h

end Go.Proofs.Ytppahohakiidmaa
/- What is in one of two chains. -/
namespace Go.Proofs.Ytppahohakiidmaa
open Go.RowKit

theorem mem_at_cnt {l : List Int} (ha : Asc l) {x : Int} (hx : x ∈ l) : cnt l x < l.length ∧ l.getD (cnt l x) 0 = x := by
  obtain ⟨h1, h2⟩ := cnt_parts ha x
  have h := mem_at ha (cnt_le l x) h1 h2
  rw [decide_eq_true hx] at h
  exact of_decide_eq_true h.symm

set_option maxRecDepth 100000 in
set_option maxHeartbeats 1000000 in
/-- Of a number that is there the list itself is answered. -/
theorem l1PutH_any (B : Nat) (A : Option Addr) (c : Nat) (l : List Int) (x : Int) (w : World) (hm : l.length ≤ 1000) (ha : Asc l) (hx : x ∈ l) (hr : Rd w B 1 A l.length (l.map I)) :
    Calls Try.prog 82 #[.slice A l.length c, .int .i64 x] w fun e w' => e = .returned (.slice A l.length c) ∧ w = w' := by
  obtain ⟨q1, q2⟩ := mem_at_cnt ha hx
  obtain ⟨p1, _⟩ := cnt_parts ha x
  obtain ⟨b, off, rfl, hb, hc⟩ := hr.cells (by omega)
  have HC := Lib.hid hc
  have P1 := Lib.hid p1
  obtain ⟨a, haa⟩ : ∃ a, cnt l x = a := ⟨_, rfl⟩
  rw [haa] at q1 q2
  have AA := Lib.hid haa
  have Q2 := Lib.hid q2
  clear hr hc ha hx p1 haa q2
  go_enter Try.func82, Try.ntmps82
  go_wp2
  go_loop [5] (fun i => ∃ k : Nat, k ≤ a ∧ i = .int .i64 k) (fun i => a - (intOf i).toNat)
  case atStart => exact ⟨0, by omega, rfl⟩
  case round =>
    obtain ⟨k, hk, rfl⟩ := hrel
    have ck := HC.out k (by omega)
    have ik : (k : Int) < (l.length : Int) := by omega
    by_cases hka : k < a
    · have hlt : l.getD k 0 < x := P1.out k (by rw [AA.out]; exact hka)
      obtain ⟨y, hy⟩ : ∃ y, l.getD k 0 = y := ⟨_, rfl⟩
      rw [hy] at ck hlt
      clear hy
      go_wp2
      go_round
      case rel => exact ⟨k + 1, by omega, by go_num⟩
      case measure => simp [intOf]; omega
    · have e : k = a := by omega
      subst e
      rw [Q2.out] at ck
      go_wp2
      go_ret
      exact ⟨rfl, rfl⟩

set_option maxHeartbeats 1000000 in
theorem l1PutO_any (B0 : Nat) (A : Option Addr) (c : Nat) (l : List Int) (x : Int) (w : World) (hm : l.length ≤ 1000) (ha : Asc l) (hB : B0 ≤ w.heap.size) (hown : OwI w B0 (.slice A l.length c) l) :
    Calls Try.prog 82 #[.slice A l.length c, .int .i64 x] w fun e w' => ∃ A' c', e = .returned (.slice A' (putI l x).length c') ∧ OwI w' B0 (.slice A' (putI l x).length c') (putI l x) ∧ Below w.heap.size w w' := by
  by_cases hx : x ∈ l
  · refine (l1PutH_any w.heap.size A c l x w hm ha hx hown.rd).mono ?_
    rintro e w' ⟨rfl, rfl⟩
    rw [putI_has hx]
    exact ⟨A, c, rfl, hown, Below.refl _ _⟩
  · refine (l1PutN_any w.heap.size A c l x w hm ha hx hown.cap (Nat.le_refl _) hown.rd).mono ?_
    rintro e w' ⟨A', c', rfl, h1, h2⟩
    exact ⟨A', c', rfl, h1.base hB, h2⟩

def uniK (a b : List Int) (k : Nat) : List Int := (b.take k).foldl putI a
def uni (a b : List Int) : List Int := b.foldl putI a
theorem uniK_end (a b : List Int) : uniK a b b.length = uni a b := by unfold uniK uni; rw [List.take_length]
theorem uniK_zero (a b : List Int) : uniK a b 0 = a := rfl
theorem uniK_succ {a b : List Int} {k : Nat} (hk : k < b.length) : uniK a b (k + 1) = putI (uniK a b k) (b.getD k 0) := by
  unfold uniK
  rw [take_succ_getD hk, List.foldl_append]
  rfl
theorem uniK_ok {a b : List Int} (ha : Asc a) (h0 : 1 ≤ a.length) : ∀ k, k ≤ b.length → Asc (uniK a b k) ∧ 1 ≤ (uniK a b k).length ∧ (uniK a b k).length ≤ a.length + k := by
  intro k
  induction k with
  | zero => intro _; rw [uniK_zero]; exact ⟨ha, h0, by omega⟩
  | succ k ih =>
    intro hk
    obtain ⟨h1, h2, h3⟩ := ih (by omega)
    rw [uniK_succ (by omega)]
    refine ⟨putI_asc h1 _, ?_, ?_⟩
    · have := List.length_pos_of_mem (mem_putI (uniK a b k) (b.getD k 0))
      omega
    · have := putI_le (uniK a b k) (b.getD k 0)
      omega
def unG (a b : List Int) : Bool := (chG a && chG b) && chG (uni a b)

end Go.Proofs.Ytppahohakiidmaa
/- Ends of star chains: both sides. -/
namespace Go.Proofs.Ytppahohakiidmaa
open Go.RowKit

def stepE (L : Nat) (s : List Int) (c : List Nat) : List Int := if c.length = L + 1 then putI s (lastN c : Int) else s
def fitE (L : Nat) (_ i : Nat) : Bool := decide (i ≤ L)
/-- The model's. -/
def shE : Nat → List Nat → List Int → List Int
  | 0, c, s => putI s (lastN c : Int)
  | d + 1, c, s => c.foldl (fun s a => shE d (c ++ [lastN c + a]) s) s
theorem shE_eq {L : Nat} : ∀ d (c : List Nat) (s : List Int), c.length + d = L + 1 → (pre (fitE L) d c).foldl (stepE L) s = shE d c s := by
  intro d
  induction d with
  | zero =>
    intro c s h
    show stepE L s c = putI s _
    exact if_pos (by omega)
  | succ d ih =>
    intro c s h
    show (c :: c.flatMap _).foldl (stepE L) s = _
    rw [List.foldl_cons, show stepE L s c = s from if_neg (by omega), foldl_flat]
    show c.foldl _ s = c.foldl _ s
    congr 1
    funext s a
    rw [if_pos (show fitE L (lastN c + a) c.length = true by unfold fitE; simpa using (by omega : c.length ≤ L))]
    exact ih _ _ (by rw [List.length_append, List.length_singleton]; omega)
theorem runE {L : Nat} : ∀ (R : List (List Nat)) (s : List Int), runD (stepE L) goT s R = R.foldl (stepE L) s := by
  intro R
  induction R with
  | nil => intro s; rfl
  | cons c R ih => intro s; rw [runD_go (by rfl), ih, List.foldl_cons]

structure ER (s : List Int) : Prop where
  asc : Asc s
  rng : ∀ x ∈ s, 1 ≤ x ∧ x ≤ 64
theorem ER.nil : ER [] := ⟨fun i j _ h => absurd h (by simp), fun x h => absurd h (by simp)⟩
theorem mem_put {l : List Int} {x y : Int} (h : y ∈ putI l x) : y = x ∨ y ∈ l := by
  unfold putI at h
  split at h
  · exact .inr h
  · unfold insA at h
    rcases List.mem_append.1 h with h | h
    · exact .inr (List.mem_of_mem_take h)
    · rcases List.mem_cons.1 h with h | h
      · exact .inl h
      · exact .inr (List.mem_of_mem_drop h)
theorem ER.put {s : List Int} (h : ER s) {x : Int} (h1 : 1 ≤ x) (h2 : x ≤ 64) : ER (putI s x) :=
  ⟨putI_asc h.asc x, fun y hy => by
    rcases mem_put hy with rfl | h'
    · exact ⟨h1, h2⟩
    · exact h.rng y h'⟩
theorem ER.len {s : List Int} (h : ER s) : s.length ≤ 64 := by
  have key : ∀ i, i < s.length → (i : Int) + 1 ≤ s.getD i 0 := by
    intro i
    induction i with
    | zero =>
      intro hi
      have := h.rng _ (List.getElem_mem hi)
      rw [List.getD_eq_getElem?_getD, List.getElem?_eq_getElem hi]
      simp only [Option.getD_some]
      omega
    | succ i ih =>
      intro hi
      have h1 := ih (by omega)
      have h2 := h.asc i (i + 1) (by omega) hi
      omega
  rcases Nat.eq_zero_or_pos s.length with h0 | h0
  · omega
  · have h1 := key (s.length - 1) (by omega)
    have h2 := h.rng _ (List.getElem_mem (show s.length - 1 < s.length by omega))
    rw [List.getD_eq_getElem?_getD, List.getElem?_eq_getElem (by omega)] at h1
    simp only [Option.getD_some] at h1
    omega
structure CB (c : List Nat) : Prop where
  pos : 1 ≤ c.length
  bd : ∀ i, i < c.length → 1 ≤ c.getD i 0 ∧ c.getD i 0 ≤ 2 ^ i
theorem CB.last {c : List Nat} (h : CB c) {L : Nat} (hl : c.length ≤ L + 1) (hL : L ≤ 6) : 1 ≤ lastN c ∧ lastN c ≤ 64 := by
  have := h.bd (c.length - 1) (by have := h.pos; omega)
  have h2 : 2 ^ (c.length - 1) ≤ 64 := Nat.pow_le_pow_right (n := 2) (by decide) (show c.length - 1 ≤ 6 by omega)
  unfold lastN
  omega
theorem CB.ext {c : List Nat} (h : CB c) {j : Nat} (hj : j < c.length) : CB (c ++ [lastN c + c.getD j 0]) := by
  refine ⟨by rw [List.length_append, List.length_singleton]; omega, fun i hi => ?_⟩
  rw [List.length_append, List.length_singleton] at hi
  rcases Nat.lt_or_ge i c.length with hlt | hge
  · rw [List.getD_eq_getElem?_getD, List.getElem?_append_left hlt, ← List.getD_eq_getElem?_getD]
    exact h.bd i hlt
  · have ei : i = c.length := by omega
    subst ei
    rw [List.getD_eq_getElem?_getD, List.getElem?_concat_length]
    have := sum_bd (c := c) (m := c.length) h.bd (e := c.length - 1) (j := j) (by omega) (by omega)
    rw [show c.length - 1 + 1 = c.length by omega] at this
    exact this
theorem CB.one : CB [1] := ⟨Nat.le_refl _, fun i hi => by
  have : i = 0 := by simpa using hi
  subst this
  exact ⟨Nat.le_refl _, Nat.le_refl _⟩⟩
def enI (d : Nat) (c : List Nat) (s : List Int) (i : Nat) : List Int := (c.take i).foldl (fun s a => shE d (c ++ [lastN c + a]) s) s
theorem enI_end (d : Nat) (c : List Nat) (s : List Int) : enI d c s c.length = shE (d + 1) c s := by
  unfold enI
  rw [List.take_of_length_le (Nat.le_refl _)]
  rfl
theorem enI_succ {d i : Nat} {c : List Nat} {s : List Int} (h : i < c.length) : enI d c s (i + 1) = shE d (c ++ [lastN c + c.getD i 0]) (enI d c s i) := by
  unfold enI
  rw [List.take_succ_eq_append_getElem h, List.foldl_append, List.getD_eq_getElem?_getD, List.getElem?_eq_getElem h]
  rfl
theorem ER.shE {L : Nat} (hL : L ≤ 6) : ∀ d (c : List Nat) (s : List Int), c.length + d = L + 1 → CB c → ER s → ER (Go.Proofs.Ytppahohakiidmaa.shE d c s) := by
  intro d
  induction d with
  | zero =>
    intro c s h hc hs
    have := hc.last (L := L) (by omega) hL
    exact hs.put (by omega) (by omega)
  | succ d ih =>
    intro c s h hc hs
    rw [← enI_end]
    have key : ∀ i, i ≤ c.length → ER (enI d c s i) := by
      intro i
      induction i with
      | zero => intro _; exact hs
      | succ i ihi =>
        intro hi
        rw [enI_succ (by omega)]
        exact ih _ _ (by rw [List.length_append, List.length_singleton]; omega) (hc.ext (by omega)) (ihi (by omega))
    exact key _ (Nat.le_refl _)
theorem ER.enI {L : Nat} (hL : L ≤ 6) {d : Nat} {c : List Nat} {s : List Int} (h : c.length + (d + 1) = L + 1) (hc : CB c) (hs : ER s) : ∀ i, i ≤ c.length → ER (Go.Proofs.Ytppahohakiidmaa.enI d c s i) := by
  intro i
  induction i with
  | zero => intro _; exact hs
  | succ i ihi =>
    intro hi
    rw [enI_succ (by omega)]
    exact ER.shE hL d _ _ (by rw [List.length_append, List.length_singleton]; omega) (hc.ext (by omega)) (ihi (by omega))

set_option maxRecDepth 100000 in
set_option maxHeartbeats 4000000 in
theorem shEnds_any (L : Nat) (hL : L ≤ 6) : ∀ (d m : Nat) (c : List Nat) (s : List Int) (B B0 : Nat) (A Ao : Option Addr) (cc co : Nat) (w : World), c.length = m → m + d = L + 1 → CB c → ER s → B ≤ w.heap.size → B0 ≤ w.heap.size → Rd w B 1 A m ((cs c).map I) → OwI w B0 (.slice Ao s.length co) s →
    Calls Try.prog 62 #[.slice A m cc, .int .i64 (d : Int), .slice Ao s.length co] w fun e w' => ∃ A' c', e = .returned (.slice A' (shE d c s).length c') ∧ OwI w' B0 (.slice A' (shE d c s).length c') (shE d c s) ∧ Below w.heap.size w w' := by
  intro d
  induction d with
  | zero =>
    intro m c s B B0 A Ao cc co w hcm hmd hcb her hB hB0 hr hown
    obtain ⟨M, hM⟩ : ∃ M, m = M + 1 := ⟨m - 1, by have := hcb.pos; omega⟩
    have hlen : (cs c).length = m := by rw [cs_len]; exact hcm
    rw [← hlen] at hr
    obtain ⟨b, off, rfl, hbB, hcells⟩ := hr.cells (by omega)
    have HCE := Lib.hid (show ∀ i, i < m → w.cell? ⟨b, off + i, none⟩ = some (.int .i64 ((c.getD i 0 : Nat) : Int)) from fun i hi => by
      have := hcells i (by omega)
      rwa [cs_getD] at this)
    have cl := HCE.out M (by omega)
    have hlN : lastN c = c.getD M 0 := by unfold lastN; rw [hcm, hM]; rfl
    obtain ⟨x, hx⟩ : ∃ x, c.getD M 0 = x := ⟨_, rfl⟩
    rw [hx] at cl hlN
    have hw1 : IntKind.i64.wrap ((m : Int) - 1) = (M : Int) := by rw [IntWalk.i64_in _ (by omega)]; omega
    have iM : (M : Int) < (m : Int) := by omega
    have hlb := hcb.last (L := L) (by omega) hL
    rw [hlN] at hlb
    have hP := l1PutO_any B0 Ao co s (x : Int) w (by have := her.len; omega) her.asc hB0 hown
    rw [show putI s (x : Int) = shE 0 c s by show _ = putI s (lastN c : Int); rw [hlN]] at hP
    have HP := Lib.hid hP
    clear hr hcells hlN hx hcm hcb hlen hM hP hown her
    go_enter Try.func62, Try.ntmps62
    go_wp2_with (go_at_call 82; refine HP.out.mono ?_; rintro e w2 ⟨A2, c2, rfl, hown2, hb2⟩)
    go_ret
    exact ⟨A2, c2, rfl, hown2, hb2⟩
  | succ d ih =>
    intro m c s B B0 A Ao cc co w hcm hmd hcb her hB hB0 hr hown
    have HRD := Lib.hid hr
    obtain ⟨M, hM⟩ : ∃ M, m = M + 1 := ⟨m - 1, by have := hcb.pos; omega⟩
    have hlen : (cs c).length = m := by rw [cs_len]; exact hcm
    rw [← hlen] at hr
    obtain ⟨b, off, rfl, hbB, hcells⟩ := hr.cells (by omega)
    have HCE := Lib.hid (show ∀ i, i < m → w.cell? ⟨b, off + i, none⟩ = some (.int .i64 ((c.getD i 0 : Nat) : Int)) from fun i hi => by
      have := hcells i (by omega)
      rwa [cs_getD] at this)
    have cl := HCE.out M (by omega)
    have hlN : lastN c = c.getD M 0 := by unfold lastN; rw [hcm, hM]; rfl
    obtain ⟨x, hx⟩ : ∃ x, c.getD M 0 = x := ⟨_, rfl⟩
    rw [hx] at cl hlN
    have hw1 : IntKind.i64.wrap ((m : Int) - 1) = (M : Int) := by rw [IntWalk.i64_in _ (by omega)]; omega
    have iM : (M : Int) < (m : Int) := by omega
    have hO := fun (W : World) (hBW : B ≤ W.heap.size) (hrW : Rd W B 1 (some ⟨b, off, none⟩) m ((cs c).map I)) => l1Own_any B (some ⟨b, off, none⟩) cc (cs c) W (by omega) hBW (by rw [hlen]; exact hrW)
    rw [hlen] at hO
    have HO := Lib.hid hO
    have HLEN := Lib.hid hlen
    have HLN := Lib.hid hlN
    have HCB := Lib.hid hcb
    have HER := Lib.hid (ER.enI hL (d := d) (c := c) (s := s) (by omega) hcb her)
    have IH := Lib.hid ih
    have HOWN := Lib.hid hown
    have HCM := Lib.hid hcm
    have hlb := hcb.last (L := L) (by omega) hL
    rw [hlN] at hlb
    have hE := enI_end d c s
    obtain ⟨Z, hZ⟩ : ∃ Z, shE (d + 1) c s = Z := ⟨_, rfl⟩
    rw [hZ, hcm] at hE
    rw [hZ]
    have HE := Lib.hid hE
    obtain ⟨K1, hK1⟩ : ∃ K1, d + 1 = K1 := ⟨_, rfl⟩
    rw [hK1]
    have ik : ((K1 : Int) == 0) = false := by rw [beq_eq_false_iff_ne]; omega
    have hwk : IntKind.i64.wrap ((K1 : Int) - 1) = (d : Int) := by rw [IntWalk.i64_in _ (by omega)]; omega
    obtain ⟨S0, hS0⟩ : ∃ S0, s.length = S0 := ⟨_, rfl⟩
    rw [hS0]
    have HS0 := Lib.hid hS0
    have HK1 := Lib.hid hK1
    have hdl : d ≤ 6 := by omega
    have hm7 : m ≤ 7 := by omega
    have HMD := Lib.hid hmd
    clear hr hcells hlN hx hcm hcb hlen hM hO hown her hE hZ hK1 hS0 ih hmd
    go_enter Try.func62, Try.ntmps62
    go_wp2
    go_loopw [2, 23] (fun ov iv wr => ∃ (i R1 : Nat) (A1 : Option Addr) (c1 : Nat), iv = .int .i64 (i : Int) ∧ ov = .slice A1 R1 c1 ∧ i ≤ m ∧ Aside (R1 = (enI d c s i).length ∧ OwI wr B0 (.slice A1 R1 c1) (enI d c s i) ∧ Below w.heap.size w wr)) (fun _ iv _ => m - (intOf iv).toNat)
    case atStart => exact ⟨0, S0, Ao, co, rfl, rfl, by omega, HS0.out.symm, by have := HOWN.out; rw [HS0.out] at this; exact this, Below.refl _ _⟩
    case round =>
      obtain ⟨i, R1, A1, c1, rfl, rfl, hi, AS⟩ := hrel
      have HR1 := Lib.hid AS.out.1
      have OWN := Lib.hid AS.out.2.1
      have BEL := Lib.hid AS.out.2.2
      have hs := AS.out.2.2.size
      clear AS
      by_cases hlt : i < m
      · have iim : (i : Int) < (m : Int) := by omega
        have ci := (BEL.out.cell (p := ⟨b, off + i, none⟩) (by simp only []; omega)).trans (HCE.out i hlt)
        have hext := HCB.out.ext (j := i) (by rw [HCM.out]; exact hlt)
        have hsucc := enI_succ (d := d) (s := s) (i := i) (c := c) (by rw [HCM.out]; exact hlt)
        have hai := HCB.out.bd i (by rw [HCM.out]; exact hlt)
        have h64 : 2 ^ i ≤ 64 := Nat.pow_le_pow_right (n := 2) (by decide) (show i ≤ 6 by omega)
        obtain ⟨a, ha⟩ : ∃ a, c.getD i 0 = a := ⟨_, rfl⟩
        rw [ha] at ci hsucc hai hext
        rw [HLN.out] at hsucc hext
        obtain ⟨z, hz⟩ : ∃ z, x + a = z := ⟨_, rfl⟩
        rw [hz] at hsucc hext
        have hwa : IntKind.i64.wrap ((x : Int) + (a : Int)) = (z : Int) := by rw [IntWalk.i64_in _ (by omega)]; omega
        have HOW := Lib.hid (HO.out wr (by omega) (HRD.out.below' BEL.out hB))
        have IHC := Lib.hid (fun (B' : Nat) (A' : Option Addr) (cc' : Nat) (W : World) (h8 : B' ≤ W.heap.size) (h8' : B0 ≤ W.heap.size) (h9 : Rd W B' 1 A' (m + 1) ((cs (c ++ [z])).map I)) (h11 : OwI W B0 (.slice A1 (enI d c s i).length c1) (enI d c s i)) =>
          IH.out (m + 1) (c ++ [z]) (enI d c s i) B' B0 A' A1 cc' c1 W (by rw [List.length_append, HCM.out]; rfl) (by have := HMD.out; omega) hext (HER.out i (by rw [HCM.out]; omega)) h8 h8' h9 h11)
        rw [← hsucc, ← HR1.out] at IHC
        have CSN := Lib.hid (show cs c ++ [(z : Int)] = cs (c ++ [z]) from (cs_snoc c z).symm)
        clear ha hz hsucc hext h64 hai
        go_wp2_with (first
          | (go_at_call 78; refine HOW.out.mono ?_; rintro e w5 ⟨A5, c5, rfl, hown5, hb5⟩; have O5 := Lib.hid hown5; have B5 := Lib.hid hb5; have hs5 : wr.heap.size ≤ w5.heap.size := hb5.size; clear hown5 hb5)
          | (at_builtin; refine list_step (fun K hK => ?_); refine step_app_int rfl (.tmp 28) (.tmp 32) rfl wr.heap.size m _ (cs c) rfl (OwI.alloc O5.out _) HLEN.out w5.heap.size 1 (z : Int) rfl (by simp) (by omega) (by simp; omega) ?_; intro A6 c6 w6 hown6 hg6 hbel6; have O6 := Lib.hid hown6; have B6 := Lib.hid ((B5.out.alloc hs5 _).trans hbel6); have hs6 : wr.heap.size ≤ w6.heap.size := (by have := hbel6.size; simp at this; omega); clear hown6 hg6 hbel6; go_simp; refine hK _ _ ?_; clear hK K)
          | (go_at_call 62; refine (IHC.out w6.heap.size A6 c6 w6 (Nat.le_refl _) (by omega) (by have h := O6.out; unfold OwI at h; rw [CSN.out, cs_len, List.length_append, HCM.out] at h; exact Rd.of_own h) (OwI.below OWN.out B6.out)).mono ?_; rintro e w7 ⟨A7, c7, rfl, hown7, hb7⟩; have O7 := Lib.hid hown7; have B7 := Lib.hid (BEL.out.trans ((B6.out.mono hs).trans (hb7.mono (by omega)))); clear hown7 hb7))
        go_roundw
        case rel => exact ⟨i + 1, _, A7, c7, by go_num, rfl, by omega, rfl, O7.out, B7.out⟩
        case measure => simp [intOf]; omega
      · have e : i = m := by omega
        subst e
        have hr1 := HR1.out
        rw [HE.out] at hr1
        subst hr1
        go_wp2
        go_ret
        refine ⟨A1, c1, rfl, ?_, BEL.out⟩
        have := OWN.out
        rw [HE.out] at this
        exact this
end Go.Proofs.Ytppahohakiidmaa
/- Ends of star chains, by the program. -/
namespace Go.Proofs.Ytppahohakiidmaa
open Go.RowKit

structure EI (B L bL bC : Nat) (_r : Nat) (s : List Int) (X : Nat → Prop) (w : World) : Prop where
  hL : w.heap[bL]? = some (.cells #[.int .i64 (L : Int)] 3 (0, 0))
  hC : ∃ A c, w.heap[bC]? = some (.cells #[.slice A s.length c] 53 (0, 0)) ∧ OwI w B (.slice A s.length c) s ∧ (s = [] → A = none ∧ c = 0) ∧ (∀ g, (Value.slice A s.length c).ownBlock = some g → ¬ X g)
  er : ER s
  lt : ∀ b, b = bL ∨ b = bC → b < w.heap.size ∧ ¬ X b
  ne : bL ≠ bC
  bB : B ≤ bC
theorem EI.frame {B L bL bC r : Nat} {s : List Int} {X X' : Nat → Prop} {w w' : World} (h : EI B L bL bC r s X w) (F : Frm X w w') (hX : ∀ b, X' b → X b ∨ w.heap.size ≤ b) : EI B L bL bC r s X' w' := by
  have hx : ∀ b, b < w.heap.size → ¬ X b → ¬ X' b := fun b h1 h2 h3 => by
    rcases hX b h3 with h | h
    · exact h2 h
    · omega
  have hk : ∀ b, b = bL ∨ b = bC → w'.heap[b]? = w.heap[b]? := fun b hb => F.block b (h.lt b hb).1 (h.lt b hb).2
  obtain ⟨A, c, h1, h2, h3, h4⟩ := h.hC
  refine ⟨(hk bL (.inl rfl)).trans h.hL, ⟨A, c, (hk bC (.inr rfl)).trans h1, own_keepG h2 fun g hg => F.block g (own_block h2 g hg).2 (h4 g hg), h3, fun g hg => hx g (own_block h2 g hg).2 (h4 g hg)⟩, h.er, ?_, h.ne, h.bB⟩
  intro b hb
  have := F.size
  have := (h.lt b hb)
  exact ⟨by omega, hx b this.1 this.2⟩

theorem ends1_any (L bL i : Nat) (s : Int) (w : World) (_hL : L ≤ 6) (hi : i ≤ L + 1) (hc : w.cell? ⟨bL, 0, none⟩ = some (.int .i64 (L : Int))) :
    Calls Try.prog 63 #[.int .i64 s, .int .i64 (i : Int), .pointer (some ⟨bL, 0, none⟩)] w fun e w' => e = .returned (.bool (fitE L 0 i)) ∧ Dr w w' := by
  by_cases h : i ≤ L
  · have ih : (i : Int) ≤ (L : Int) := by omega
    go_enter Try.func63, Try.ntmps63
    go_wp2
    go_ret
    exact ⟨ret_bool (by unfold fitE; simp [h]), Dr.refl _⟩
  · have ih : ¬ (i : Int) ≤ (L : Int) := by omega
    go_enter Try.func63, Try.ntmps63
    go_wp2
    go_ret
    exact ⟨ret_bool (by unfold fitE; simp [h]), Dr.refl _⟩

set_option maxRecDepth 100000 in
set_option maxHeartbeats 2000000 in
theorem ends2_any (B L bL bC r : Nat) (s : List Int) (X : Nat → Prop) (w : World) (gc cc : Nat) (c : List Nat) (m : Nat) (hI : EI B L bL bC (r + 1) s X w) (hXw : ∀ b, X b → b < w.heap.size) (hcm : c.length = m) (hm1 : 1 ≤ m)
    (hmL : m ≤ L + 1) (hL : L ≤ 6) (hbd : ∀ i, i < m → 1 ≤ c.getD i 0 ∧ c.getD i 0 ≤ 2 ^ i) (hB : B ≤ w.heap.size) (hown : OwI w B (.slice (some ⟨gc, 0, none⟩) m cc) (cs c)) :
    Calls Try.prog 64 #[.slice (some ⟨gc, 0, none⟩) m cc, .pointer (some ⟨bL, 0, none⟩), .pointer (some ⟨bC, 0, none⟩)] w fun e w' =>
      e = .returned (.bool (goT (stepE L s c))) ∧ EI B L bL bC r (stepE L s c) X w' ∧ Below B w w' ∧ w.heap.size ≤ w'.heap.size ∧ ∀ b, X b → b < w.heap.size → w'.heap[b]? = w.heap[b]? := by
  obtain ⟨A, c0, h1, h2, h3, h4⟩ := hI.hC
  have hLc := cell_of_one hI.hL
  have hCc := cell_of_one h1
  have hbC := hI.lt bC (.inr rfl)
  have hbL := hI.lt bL (.inl rfl)
  have hlen := hI.er.len
  have hw1 : IntKind.i64.wrap ((L : Int) + 1) = (L : Int) + 1 := IntWalk.i64_in _ (by omega)
  have HI := Lib.hid hI
  have H2 := Lib.hid h2
  have HH := Lib.hid (And.intro h1 (And.intro h3 h4))
  have HX := Lib.hid hXw
  by_cases he : m = L + 1
  case neg =>
    have G := Lib.hid (show stepE L s c = s from if_neg (by omega))
    have ime : ((m : Int) == (L : Int) + 1) = false := by rw [beq_eq_false_iff_ne]; omega
    clear hI h1 h2 h3 h4 hXw hown he hcm hbd
    go_enter Try.func64, Try.ntmps64
    go_wp2
    go_ret
    exact ⟨rfl, by rw [G.out]; exact ⟨HI.out.hL, HI.out.hC, HI.out.er, HI.out.lt, HI.out.ne, HI.out.bB⟩, Below.refl _ _, Nat.le_refl _, fun _ _ _ => rfl⟩
  case pos =>
  subst he
  have hCB : CB c := ⟨by omega, by rw [hcm]; exact hbd⟩
  have hlast := hCB.last (L := L) (by omega) hL
  have G := Lib.hid (show stepE L s c = putI s (lastN c : Int) from if_pos hcm)
  have ime : ((L : Int) + 1 == (L : Int) + 1) = true := by simp
  have hrd : Rd w w.heap.size 1 (some ⟨gc, 0, none⟩) (L + 1) ((cs c).map I) := by
    have h := hown
    unfold OwI at h
    rw [cs_len, hcm] at h
    exact Rd.of_own h
  have hEnd := fun (W : World) (hr : Rd W w.heap.size 1 (some ⟨gc, 0, none⟩) (cs c).length ((cs c).map I)) => endOf_any w.heap.size (some ⟨gc, 0, none⟩) cc (cs c) W (by rw [cs_len]; omega) (by rw [cs_len]; omega) hr
  have hlv : (cs c).getD ((cs c).length - 1) 0 = (lastN c : Int) := by rw [cs_len, cs_getD]; rfl
  rw [hlv, cs_len, hcm] at hEnd
  obtain ⟨x, hx⟩ : ∃ x, lastN c = x := ⟨_, rfl⟩
  rw [hx] at hEnd G hlast
  have HEND := Lib.hid hEnd
  have HRD := Lib.hid hrd
  have hrs : ∀ W : World, Below w.heap.size w W → Rd W w.heap.size 1 A s.length (s.map I) := fun W hb => (Rd.of_own (show World.ownsRow _ _ _ _ _ _ _ from h2)).below hb
  have HRS := Lib.hid hrs
  have hPut := hI.er.put (x := (x : Int)) (by omega) (by omega)
  have HPUT := Lib.hid hPut
  have hWith := fun (W : World) (hb : Below w.heap.size w W) => with_any w.heap.size A c0 s (x : Int) W (by omega) hI.er.asc h3 hb.size (hrs W hb)
  have HW := Lib.hid hWith
  have hPne : putI s (x : Int) = [] → False := by
    intro e
    have h0 := List.length_eq_zero_iff.2 e
    unfold putI at e
    split at e
    · rename_i hm; rw [e] at hm; exact absurd hm (by simp)
    · unfold insA at e; simp at e
  have HPN := Lib.hid hPne
  obtain ⟨P, hP⟩ : ∃ P, putI s (x : Int) = P := ⟨_, rfl⟩
  rw [hP] at HW HPUT HPN G
  clear hI h1 h2 h3 h4 hXw hown hcm hbd hCB hEnd hlv hrd hrs hPut hWith hPne hx hP
  go_enter Try.func64, Try.ntmps64
  go_wp2
  have HS := Lib.hid (show (fun x : World => x.cell? ⟨bC, 0, none⟩ = some (.slice A s.length c0)) w.drew from hCc)
  refine wp_region_T (fun x : World => x.cell? ⟨bC, 0, none⟩ = some (.slice A s.length c0)) [0, 1] [0] (.lp 1 (.ls 0 (.hv 2 (.hv 3 (.hv 4 (.done)))))) (by kernel_rfl) (by kernel_rfl) ?_
  (repeat (refine T_lp rfl (fun K hK => ?_); go_simp; refine hK _ ?_; clear hK K))
  refine T_ls1 (v := .slice A s.length c0) rfl rfl HS.out (fun x hx => (by go_simp)) (fun K hK => ?_)
  (go_simp; refine hK _ ?_; clear hK K)
  (repeat (refine T_lp rfl (fun K hK => ?_); go_simp; refine hK _ ?_; clear hK K))
  refine T_hvS rfl (fun K hK => ?_)
  go_simp
  go_at_call 66
  refine (HEND.out w.drew HRD.out.drew).mono ?_
  rintro e w2 ⟨rfl, rfl⟩
  go_simp
  refine hK _ _ HS.out ?_
  clear hK K
  (repeat (refine T_lp rfl (fun K hK => ?_); go_simp; refine hK _ ?_; clear hK K))
  (refine T_hv rfl (by kernel_rfl) (fun K hK => ?_); go_simp)
  go_at_call 65
  refine (HW.out w.drew (Below.refl _ _).drew).mono ?_
  rintro e w4 ⟨A4, c4, rfl, hown4, hb4⟩
  have hb4' : Below w.heap.size w w4 := (Below.refl _ _).drew.trans hb4
  have hz4 := hb4'.size
  have HB4 := Lib.hid hb4'
  have HO4 := Lib.hid (show OwI w4 w.heap.size (.slice A4 P.length c4) P from hown4)
  have hC4 : w4.heap[bC]? = some (.cells #[.slice A s.length c0] 53 (0, 0)) := (hb4'.block bC hbC.1).trans HH.out.1
  have fz := free_of_one hC4
  have cz := cell_of_one hC4
  have HC4 := Lib.hid hC4
  clear hown4 hb4 hb4' hC4
  (go_simp; refine hK _ _ ?_; clear hK K)
  (refine T_hv rfl (by kernel_rfl) (fun K hK => ?_); go_simp; refine hK _ _ ?_; clear hK K)
  refine T_done ?_
  go_wp2
  go_ret
  have hset : ∀ b, b ≠ bC → (w4.setCell ⟨bC, 0, none⟩ (.slice A4 P.length c4)).heap[b]? = w4.heap[b]? := fun b hb => Below.heap_setCell w4 ⟨bC, 0, none⟩ _ b hb
  have hsz : (w4.setCell ⟨bC, 0, none⟩ (.slice A4 P.length c4)).heap.size = w4.heap.size := by simp
  refine ⟨rfl, ?_, (HB4.out.mono hB).setCell HI.out.bB _, by omega, fun b hx hb => (hset b (fun e => by subst e; exact hbC.2 hx)).trans (HB4.out.block b hb)⟩
  rw [G.out]
  refine ⟨(hset bL HI.out.ne).trans ((HB4.out.block bL hbL.1).trans HI.out.hL), ⟨A4, c4, one_setCell HC4.out, ?_, fun e => absurd e HPN.out, ?_⟩, HPUT.out, fun b hb => ?_, HI.out.ne, HI.out.bB⟩
  · refine own_keepG (own_base HO4.out hB) fun g hg => hset g ?_
    have := (own_block HO4.out g hg).1
    omega
  · intro g hg hx
    have := (own_block HO4.out g hg).1
    have := HX.out g hx
    omega
  · have := HI.out.lt b hb
    exact ⟨by omega, this.2⟩

theorem stepsE (B L bL bC : Nat) (hL : L ≤ 6) :
    Steps B (fitE L) L 63 64 #[.pointer (some ⟨bL, 0, none⟩)] #[.pointer (some ⟨bL, 0, none⟩), .pointer (some ⟨bC, 0, none⟩)] (stepE L) goT (EI B L bL bC) where
  frame := fun _ _ _ _ _ _ h F hX => h.frame F hX
  fits := fun _ _ _ w s i h _ _ h3 => ends1_any L bL i s w hL h3 (cell_of_one h.hL)
  meet := fun r s X w gc cc c m hI _ hXw hc h1 h2 hbd hB hown => ends2_any B L bL bC r s X w gc cc c m hI hXw hc h1 h2 hL hbd hB hown

def isEn (x : Int) : Bool := inB x 0 6
theorem isEn_rng {n : Int} (h : isEn n = true) : 0 ≤ n ∧ n ≤ 6 := by
  unfold isEn inB at h
  simpa using h
def seL (x : Int) : List Int := if isEn x then shE x.toNat [1] [] else []
theorem seL_yes {L : Nat} (h : isEn (L : Int) = true) : seL (L : Int) = shE L [1] [] := by unfold seL; rw [if_pos h]; rfl
theorem seL_no {x : Int} (h : isEn x = false) : seL x = [] := by unfold seL; rw [h]; rfl
theorem seL_le (x : Int) : (seL x).length ≤ 1000 := by
  cases h : isEn x with
  | false => rw [seL_no h]; simp
  | true =>
    have r := isEn_rng h
    obtain ⟨L, rfl⟩ : ∃ L : Nat, x = L := ⟨x.toNat, by omega⟩
    rw [seL_yes h]
    have := (ER.shE (L := L) (by omega) L [1] [] (by simp; omega) CB.one ER.nil).len
    omega

set_option maxRecDepth 100000 in
set_option maxHeartbeats 2000000 in
theorem specEnds_any (x : Int) (w : World) : Calls Try.prog 36 #[.int .i64 x] w fun e w' => ∃ A' c', e = .returned (.tuple #[.slice A' (seL x).length c', .bool (isEn x)]) ∧ OwI w' w.heap.size (.slice A' (seL x).length c') (seL x) ∧ Below w.heap.size w w' := by
  have hN := l1In_any x 0 6 w
  rw [show inB x 0 6 = isEn x from rfl] at hN
  cases h1 : isEn x with
  | false =>
    have E := Lib.hid (seL_no h1)
    rw [h1] at hN
    have HN := Lib.hid hN
    clear hN h1
    go_enter Try.func36, Try.ntmps36
    go_wp2_with (go_at_call 61; refine HN.out.mono ?_; rintro e w' ⟨rfl, rfl⟩)
    go_ret2
    exact ⟨none, 0, by rw [E.out]; rfl, by rw [E.out]; exact OwI.nil _ _, Below.refl _ _⟩
  | true =>
    have r := isEn_rng h1
    obtain ⟨L, rfl⟩ : ∃ L : Nat, x = L := ⟨x.toNat, by omega⟩
    have E := Lib.hid (seL_yes h1)
    rw [h1] at hN
    have HN := Lib.hid hN
    have O1 := own_one (w := w) (B := 0) 1 (by omega)
    have hS := shEnds_any L (by omega) L 1 [1] [] (w.alloc (.cells #[.int .i64 1] 3)).heap.size w.heap.size (some ⟨w.heap.size, 0, none⟩) none 1 0 (w.alloc (.cells #[.int .i64 1] 3)) rfl (by omega) CB.one ER.nil (Nat.le_refl _) (by simp) O1.rd (OwI.nil _ _)
    have HS := Lib.hid hS
    clear hN h1 hS O1
    go_enter Try.func36, Try.ntmps36
    go_wp2_with (first
      | (go_at_call 61; refine HN.out.mono ?_; rintro e w' ⟨rfl, rfl⟩)
      | (go_at_call 62; refine (show Calls _ _ _ _ _ from HS.out).mono ?_; rintro e w2 ⟨A2, c2, rfl, hown2, hb2⟩))
    go_ret2
    exact ⟨A2, c2, by rw [E.out]; rfl, by rw [E.out]; exact hown2, ((Below.refl _ _).alloc (Nat.le_refl _) _).trans (hb2.mono (by simp))⟩

set_option maxRecDepth 100000 in
set_option maxHeartbeats 2000000 in
theorem implEnds_any (x : Int) (w : World) : Calls Try.prog 37 #[.int .i64 x] w fun e w' => ∃ A' c', e = .returned (.tuple #[.slice A' (seL x).length c', .bool (isEn x)]) ∧ OwI w' w.heap.size (.slice A' (seL x).length c') (seL x) ∧ Below w.heap.size w w' := by
  cases h1 : isEn x with
  | false =>
    have E := Lib.hid (seL_no h1)
    by_cases hx : x < 0
    · clear h1
      go_enter Try.func37, Try.ntmps37
      go_wp2
      go_ret2
      exact ⟨none, 0, by rw [E.out]; rfl, by rw [E.out]; exact OwI.nil _ _, (Below.refl _ _).alloc (Nat.le_refl _) _⟩
    · have hx6 : 6 < x := by
        unfold isEn inB at h1
        rw [decide_eq_true (show (0 : Int) ≤ x by omega), Bool.true_and, decide_eq_false_iff_not] at h1
        omega
      clear h1
      go_enter Try.func37, Try.ntmps37
      go_wp2
      go_ret2
      exact ⟨none, 0, by rw [E.out]; rfl, by rw [E.out]; exact OwI.nil _ _, (Below.refl _ _).alloc (Nat.le_refl _) _⟩
  | true =>
    have r := isEn_rng h1
    obtain ⟨L, rfl⟩ : ∃ L : Nat, x = L := ⟨x.toNat, by omega⟩
    have E := Lib.hid (seL_yes h1)
    have i0 : ¬ (L : Int) < 0 := by omega
    have i6 : ¬ (6 : Int) < (L : Int) := by omega
    have hdat : (if fitE L 1 0 then runD (stepE L) goT [] (pre (fitE L) L [1]) else []) = shE L [1] [] := by
      rw [if_pos (show fitE L 1 0 = true by unfold fitE; simp), runE, shE_eq L [1] [] (by simp; omega)]
    have HD := Lib.hid hdat
    have E0 := Lib.hid (ER.nil)
    clear h1 hdat
    go_enter Try.func37, Try.ntmps37
    go_wp2_with fail
    generalize hw5 : World.alloc (World.alloc w _) _ = w5
    have q1 : w5.heap[w.heap.size]? = some (.cells #[.int .i64 (L : Int)] 3 (0, 0)) := by
      rw [← hw5, Below.heap_alloc _ _ _ (by simp), heap_alloc_new]
    have q2 : w5.heap[w.heap.size + 1]? = some (.cells #[.slice none 0 0] 53 (0, 0)) := by
      rw [← hw5]
      have := heap_alloc_new (w.alloc (.cells #[.int .i64 (L : Int)] 3)) (.cells #[.slice none 0 0] 53)
      simpa using this
    have qz : w5.heap.size = w.heap.size + 2 := by rw [← hw5]; simp
    have qb : Below w.heap.size w w5 := by rw [← hw5]; exact ((Below.refl _ _).alloc (Nat.le_refl _) _).alloc (by simp) _
    clear hw5
    obtain ⟨b, hb⟩ : ∃ b, w.heap.size = b := ⟨_, rfl⟩
    rw [hb] at q1 q2 qz ⊢
    have hEI : EI b L b (b + 1) (pre (fitE L) L [1]).length [] (fun _ => False) w5 :=
      ⟨q1, ⟨none, 0, q2, OwI.nil _ _, fun _ => ⟨rfl, rfl⟩, fun g hg => by cases hg⟩, E0.out, fun b' hb' => ⟨by omega, fun h => h⟩, by omega, by omega⟩
    have hrun := run_any b L 63 64 (fitE L) _ _ (stepE L) goT _ (enters_of Try.func63 (by kernel_rfl) rfl) (enters_of Try.func64 (by kernel_rfl) rfl)
      (stepsE b L b (b + 1) (by omega)) (by omega) (fun s i h => by unfold fitE; simpa using h) w5 _ (by omega) hEI
    rw [HD.out] at hrun
    have HRUN := Lib.hid hrun
    have QB := Lib.hid (show Below b w w5 by rw [← hb]; exact qb)
    have HB := Lib.hid hb
    clear q1 q2 qz qb hEI hrun hb
    go_at_call 60
    refine (show Calls _ _ _ _ _ from HRUN.out).mono ?_
    rintro e w6 ⟨rfl, ⟨r, hI⟩, hb6⟩
    obtain ⟨A, c, h1, h2, _⟩ := hI.hC
    have hcell := cell_of_one h1
    have HO := Lib.hid h2
    have H6 := Lib.hid (show Below b w w6 from QB.out.trans hb6)
    clear hI hb6 HRUN h1 h2
    go_wp2
    go_ret2
    exact ⟨A, c, by rw [E.out]; rfl, by rw [E.out, HB.out]; exact HO.out, by rw [HB.out]; exact H6.out⟩
end Go.Proofs.Ytppahohakiidmaa
