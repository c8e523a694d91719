/- Adders of a number: of the model; AddersOf of both programs. -/
import Derived.Test.YtbohakifjmdoiaaN9n
import Derived.Test.YtbohakifjmdoiaaN9d
import Derived.Test.YtbohakifjmdoiaaN9e
namespace Go.Proofs.Ytbohakifjmdoiaa
open Go.RowKit

theorem OwI.rd' {w : World} {B c n : Nat} {A : Option Addr} {l : List Int} (h : OwI w B (.slice A n c) l) (e : l.length = n) : Rd w w.heap.size 1 A l.length (l.map I) := by
  subst e
  exact Rd.of_own h
theorem adF_nil (top : Int) (p : List (Nat × Int)) : adF top p = [] ↔ ∀ x ∈ p, x.2 = 0 := by
  suffices h : ∀ (p : List (Nat × Int)) (acc : List Ad), p.foldl (adS top) acc = [] ↔ acc = [] ∧ ∀ x ∈ p, x.2 = 0 by
    have := h p []
    simpa [adF] using this
  intro p
  induction p with
  | nil => intro acc; simp
  | cons x p ih =>
    intro acc
    rw [List.foldl_cons, ih]
    unfold adS
    by_cases hx : x.2 = 0
    · simp [hx]
    · simp [hx]
theorem adF_q (q : List Int) (top : Int) : adF top (bwZ q q.length) = [] ↔ ∀ d ∈ q, d = 0 := by
  rw [adF_nil]
  have e := bwZ_rev q
  constructor
  · intro h d hd
    have : d ∈ (bwZ q q.length).map (·.2) := by rw [e]; simpa using hd
    obtain ⟨x, hx, rfl⟩ := List.mem_map.1 this
    exact h x hx
  · intro h x hx
    have : x.2 ∈ (bwZ q q.length).map (·.2) := List.mem_map.2 ⟨x, hx, rfl⟩
    rw [e] at this
    exact h x.2 (by simpa using this)
theorem wtD_zero (q : List Int) : wtD q = 0 ↔ ∀ d ∈ q, d = 0 := by
  unfold wtD
  rw [show ((q.filter (fun d => d != 0)).length : Int) = 0 ↔ q.filter (fun d => d != 0) = [] by rw [← List.length_eq_zero_iff]; omega, List.filter_eq_nil_iff]
  simp
theorem wt_one {q : List Int} {d : Int} (hd : d ≠ 0) (top : Int) : wtD (q ++ [d]) = 1 ↔ adF top (bwZ q q.length) = [] := by
  rw [wtD_cons, if_neg hd, adF_q, ← wtD_zero]
  omega
theorem bwZ_next (q : List Int) {k : Nat} (hk : k < q.length) : bwZ q (k + 1) = bwZ q k ++ [(q.length - 1 - k, q[q.length - 1 - k]'(by omega))] := by
  unfold bwZ
  rw [bwd_succ]
  have h : q.length - 1 - k < q.length := by omega
  simp [List.getElem?_eq_getElem h]
theorem new5s (w : World) (a b c d e : Value) (t : TypeId) : ∀ j, j < 5 → (w.alloc (.cells #[a, b, c, d, e] t)).cell? ⟨w.heap.size, j, none⟩ = [a, b, c, d, e][j]? := by
  have hb := heap_alloc_new w (.cells #[a, b, c, d, e] t)
  intro j hj
  have : j = 0 ∨ j = 1 ∨ j = 2 ∨ j = 3 ∨ j = 4 := by omega
  rcases this with rfl | rfl | rfl | rfl | rfl
  · rw [cell_of_row _ _ 0 _ _ (0, 0) hb]; rfl
  · rw [cell_of_row _ _ 1 _ _ (0, 0) hb]; rfl
  · rw [cell_of_row _ _ 2 _ _ (0, 0) hb]; rfl
  · rw [cell_of_row _ _ 3 _ _ (0, 0) hb]; rfl
  · rw [cell_of_row _ _ 4 _ _ (0, 0) hb]; rfl
theorem own_lit5 (w : World) (a b c d : Int) (m : Bool) : OwA (w.alloc (.cells #[.int .i64 a, .int .i64 b, .int .i64 c, .int .i64 d, .bool m] 39)) w.heap.size (some ⟨w.heap.size, 0, none⟩) 1 [(a, b, c, d, m)] := by
  have h := World.ownsRow_lit (base := w.heap.size) (e := 39) (size := 5) w #[.int .i64 a, .int .i64 b, .int .i64 c, .int .i64 d, .bool m] 1 (Nat.le_refl _) (by unfold maxLen; omega) (by simp)
  exact h
theorem own_snoc5 {w : World} {B N c : Nat} {A : Option Addr} {z : List Ad} {a b s t : Int} {m : Bool} (e : z.length = N) (h : w.ownsRow B 39 5 (.slice A (N + 1) c) (N + 1) (fl5 z ++ [.int .i64 a, .int .i64 b, .int .i64 s, .int .i64 t, .bool m])) : OwA w B A c (z ++ [(a, b, s, t, m)]) := by
  subst e
  unfold OwA
  rw [fl5_snoc, List.length_append]
  exact h
theorem adF_step {T : Int} {q : List Int} {k : Nat} (hk : k < q.length) (hT : q.length = k + 1 + (q.length - 1 - k)) : adF T (bwZ q (k + 1)) = adS T (adF T (bwZ q k)) (q.length - 1 - k, q[q.length - 1 - k]'(by omega)) := by
  rw [bwZ_next q hk, adF_snoc]

set_option maxRecDepth 100000 in
set_option maxHeartbeats 8000000 in
theorem siMake_any (n : Int) (w : World) (hn1 : 1 ≤ n) (hn : n ≤ 1000000) :
    Calls Try.prog 80 #[.int .i64 n] w fun e w' =>
      ∃ A c, e = .returned (.slice A (mkA n).length c) ∧ OwA w' w.heap.size A c (mkA n) ∧ Below w.heap.size w w' := by
  have hD := siWindow2 n w (by omega) hn
  have hDl := wnD_len28 (T := 4) (n := n) (.inl rfl) (by omega)
  obtain ⟨q, dl, eq, hdl0, em⟩ := wnD_split hn1
  obtain ⟨T, hT⟩ : ∃ T, q.length = T := ⟨_, rfl⟩
  have hDT : (q ++ [dl]).length = T + 1 := by rw [List.length_append, hT]; rfl
  have EM := Lib.hid (show mkA n = mkQ q from em)
  have EMQ := Lib.hid (show mkQ q = if adF T (bwZ q T) = [] ∧ 0 < T then [(0, (T : Int) - 1, 0, (T : Int) - 1, false)] else adF T (bwZ q T) by unfold mkQ; rw [hT])
  rw [eq] at hD hDl
  rw [hDT] at hD hDl
  have HD := Lib.hid hD
  have QT := Lib.hid hT
  have QL := Lib.hid hDT
  have WT1 := Lib.hid (show wtD (q ++ [dl]) = 1 ↔ adF T (bwZ q T) = [] by have := wt_one (q := q) hdl0 (T : Int); rwa [hT] at this)
  have hT28 : T ≤ 27 := by omega
  clear hD eq hT hDT em hDl hn1 hn hdl0
  go_enter Try.func80, Try.ntmps80
  go_wp2_with fail
  go_at_call 51
  refine HD.out.mono ?_
  rintro e w2 ⟨A, c, rfl, ho2, hb2⟩
  have hcap : T + 1 ≤ c := by have := ho2.cap; rw [QL.out] at this; exact this
  have hrd2 : Rd w2 w2.heap.size 1 A (q ++ [dl]).length ((q ++ [dl]).map I) := ho2.rd' QL.out
  have HRQ := Lib.hid hrd2
  have SW := siWeight_any w2.heap.size A c (q ++ [dl]) w2 (by rw [QL.out]; omega) hrd2
  rw [QL.out] at SW
  obtain ⟨wt, hwt⟩ : ∃ wt, wtD (q ++ [dl]) = wt := ⟨_, rfl⟩
  rw [hwt] at SW WT1
  have SW := Lib.hid SW
  have XB := Lib.hid hb2
  have hs2 := hb2.size
  clear ho2 hb2 hrd2 hwt
  go_wp2_with fail
  go_at_call 60
  refine SW.out.mono ?_
  rintro e w' ⟨rfl, rfl⟩
  by_cases hw1 : wt = 1
  · have hnil := WT1.out.1 hw1
    have i0 : (wt == 1) = true := by simp [hw1]
    by_cases hT0 : T = 0
    · have E := Lib.hid (show mkA n = [] by rw [EM.out, EMQ.out, if_neg (by omega)]; exact hnil)
      have i1 : ((T : Int) == 0) = true := by simp [hT0]
      clear hnil hw1 hT0
      go_wp2
      go_ret
      exact ⟨none, 0, by rw [E.out]; rfl, by rw [E.out]; exact OwA.nil _ _, XB.out⟩
    · have E := Lib.hid (show mkA n = [(0, (T : Int) - 1, 0, (T : Int) - 1, false)] by rw [EM.out, EMQ.out, if_pos ⟨hnil, by omega⟩])
      have i1 : ((T : Int) == 0) = false := by simpa using hT0
      have LIT := Lib.hid (own_lit5 w2 0 ((T : Int) - 1) 0 ((T : Int) - 1) false)
      have LB := Lib.hid (XB.out.trans (((Below.refl w2.heap.size w2).alloc (Nat.le_refl _) (.cells #[.int .i64 0, .int .i64 ((T : Int) - 1), .int .i64 0, .int .i64 ((T : Int) - 1), .bool false] 39)).mono hs2))
      clear hnil hw1 hT0
      go_wp2
      go_ret
      exact ⟨some ⟨w2.heap.size, 0, none⟩, 1, by rw [E.out]; rfl, by rw [E.out]; exact LIT.out.base hs2, LB.out⟩
  · have E := Lib.hid (show mkA n = adF T (bwZ q T) by rw [EM.out, EMQ.out, if_neg (fun h => hw1 (WT1.out.2 h.1))])
    have i0 : (wt == 1) = false := by simpa using hw1
    clear hw1
    go_wp2
    go_loopw [5, 6] (fun ov iv wr => ∃ (k : Nat) (A1 : Option Addr) (c1 : Nat), k ≤ T ∧ iv = .int .i64 ((T : Int) - 1 - (k : Int)) ∧ ov = .slice A1 (adF T (bwZ q k)).length c1 ∧ OwA wr w2.heap.size A1 c1 (adF T (bwZ q k)) ∧ Below w2.heap.size w2 wr) (fun _ iv _ => (intOf iv + 1).toNat)
    case atStart => exact ⟨0, none, 0, by omega, by simp, rfl, OwA.nil _ _, Below.refl _ _⟩
    case round =>
      obtain ⟨k, A1, c1, hk, rfl, rfl, hown, hbel⟩ := hrel
      have hs := hbel.size
      have BEL := Lib.hid hbel
      have OWN := Lib.hid hown
      have hzl : (adF T (bwZ q k)).length ≤ 27 := by
        have h1 := adF_len T (bwZ q k)
        have h2 : (bwZ q k).length = k := bwd_length _ _ _
        omega
      clear hbel hown
      by_cases hlt : k < T
      · obtain ⟨p, hp⟩ : ∃ p : Nat, T - 1 - k = p := ⟨_, rfl⟩
        have ep : (T : Int) - 1 - (k : Int) = (p : Int) := by omega
        have hlt' : k < q.length := by rw [QT.out]; exact hlt
        have hpq : p < (q ++ [dl]).length := by rw [QL.out]; omega
        have hpq' : p < q.length := by rw [QT.out]; omega
        obtain ⟨b, off, eA, hbb, hcell⟩ := (HRQ.out.below' BEL.out (Nat.le_refl _)).int hpq
        have ST := Lib.hid (show adF T (bwZ q (k + 1)) = adS T (adF T (bwZ q k)) (p, q[p]) by
          have h := adF_step (T := (T : Int)) hlt' (by omega)
          have e : q.length - 1 - k = p := by rw [QT.out, hp]
          rw [h]
          congr 2
          simp only [e])
        rw [List.getElem_append_left hpq'] at hcell
        obtain ⟨d, hd⟩ : ∃ d, q[p] = d := ⟨_, rfl⟩
        rw [hd] at hcell ST
        obtain ⟨z, hz⟩ : ∃ z, adF T (bwZ q k) = z := ⟨_, rfl⟩
        rw [hz] at ST OWN hzl ⊢
        rw [ep]
        have ip0 : (0 : Int) ≤ (p : Int) := by omega
        have ipT : (p : Int) < (T : Int) + 1 := by omega
        have NP := Lib.hid (show (p : Int) - 1 = (T : Int) - 1 - ((k + 1 : Nat) : Int) by omega)
        have PM := Lib.hid (show p < T by omega)
        subst eA
        clear hz hd hp ep hpq hpq' hlt'
        by_cases h0 : d = 0
        · have i1 : (d == 0) = true := by simpa using h0
          have EN := Lib.hid (show adF T (bwZ q (k + 1)) = z by rw [ST.out]; unfold adS; rw [if_pos h0])
          clear h0
          go_wp2
          go_roundw
          case rel => exact ⟨k + 1, A1, c1, by omega, by rw [NP.out], by rw [EN.out], by rw [EN.out]; exact OWN.out, BEL.out⟩
          case measure => simp [intOf]
        · have i1 : (d == 0) = false := by simpa using h0
          have EN := Lib.hid (show adF T (bwZ q (k + 1)) = z ++ [((z.length : Int), if z.length = 0 then (T : Int) else 0, 0, (p : Int), decide (d < 0))] by rw [ST.out]; unfold adS; rw [if_neg h0])
          obtain ⟨m, hm⟩ : ∃ m, decide (d < 0) = m := ⟨_, rfl⟩
          rw [hm] at EN
          have HS4 := Lib.hid (show w2.heap.size ≤ wr.heap.size + 1 by omega)
          clear h0
          by_cases hz0 : z.length = 0
          · have hzn : z = [] := List.length_eq_zero_iff.1 hz0
            subst hzn
            have EN := Lib.hid (show adF T (bwZ q (k + 1)) = [(0, (T : Int), 0, (p : Int), m)] from EN.out)
            have OWN := Lib.hid (show wr.ownsRow w2.heap.size 39 5 (.slice A1 0 c1) 0 [] from OWN.out)
            have BW1 := Lib.hid (show Below wr.heap.size wr (wr.alloc (.cells #[.int .i64 0, .int .i64 (T : Int), .int .i64 0, .int .i64 (p : Int), .bool m] 39)) from (Below.refl wr.heap.size wr).alloc (Nat.le_refl _) _)
            have OW1 := Lib.hid (show (wr.alloc (.cells #[.int .i64 0, .int .i64 (T : Int), .int .i64 0, .int .i64 (p : Int), .bool m] 39)).ownsRow w2.heap.size 39 5 (.slice A1 0 c1) 0 [] from own_below OWN.out BW1.out)
            have hsz1 : (wr.alloc (.cells #[.int .i64 0, .int .i64 (T : Int), .int .i64 0, .int .i64 (p : Int), .bool m] 39)).heap.size = wr.heap.size + 1 := by simp
            have NF := Lib.hid (show ∀ j, j < 5 → ((wr.alloc (.cells #[.int .i64 0, .int .i64 (T : Int), .int .i64 0, .int .i64 (p : Int), .bool m] 39)).alloc (.cells #[.int .i64 0, .int .i64 (T : Int), .int .i64 0, .int .i64 (p : Int), .bool m] 39)).cell? ⟨wr.heap.size + 1, j, none⟩ = ([.int .i64 0, .int .i64 (T : Int), .int .i64 0, .int .i64 (p : Int), .bool m] : List Value)[j]? by
              have h := new5s (wr.alloc (.cells #[.int .i64 0, .int .i64 (T : Int), .int .i64 0, .int .i64 (p : Int), .bool m] 39)) (.int .i64 0) (.int .i64 (T : Int)) (.int .i64 0) (.int .i64 (p : Int)) (.bool m) 39
              rw [hsz1] at h
              exact h)
            have BW2 := Lib.hid (show Below w2.heap.size w2 ((wr.alloc (.cells #[.int .i64 0, .int .i64 (T : Int), .int .i64 0, .int .i64 (p : Int), .bool m] 39)).alloc (.cells #[.int .i64 0, .int .i64 (T : Int), .int .i64 0, .int .i64 (p : Int), .bool m] 39)) from (BEL.out.trans (BW1.out.mono hs)).alloc (by rw [hsz1]; exact HS4.out) _)
            clear hsz1
            go_wp2_with (at_builtin; refine list_step (fun K hK => ?_); refine step_appN Try.underlying46 info_ad99 rfl (by omega) (by omega) rfl (.tmp 49) (.tmp 51) rfl w2.heap.size 0 _ [] rfl (World.ownsRow.alloc OW1.out _) (wr.heap.size + 1) 1 [.int .i64 0, .int .i64 (T : Int), .int .i64 0, .int .i64 (p : Int), .bool m] rfl rfl NF.out (by simp [Value.oneCell']) (by omega) (by simp; omega) ?_; intro A3 c3 w4 hown4 hg4 hbel4; go_simp; refine hK _ _ ?_; clear hK K)
            go_roundw
            case rel => exact ⟨k + 1, A3, c3, by omega, by rw [NP.out], by rw [EN.out]; rfl, by rw [EN.out]; exact hown4, BW2.out.trans hbel4⟩
            case measure => simp [intOf]
          · have i2 : ((z.length : Int) == 0) = false := by simpa using (show ¬ z = [] by intro e; subst e; exact hz0 rfl)
            obtain ⟨N, hN⟩ : ∃ N, z.length = N := ⟨_, rfl⟩
            have EN := Lib.hid (show adF T (bwZ q (k + 1)) = z ++ [((N : Int), 0, 0, (p : Int), m)] by rw [EN.out, if_neg hz0, hN])
            have EZ := Lib.hid hN
            have OWN := Lib.hid (show wr.ownsRow w2.heap.size 39 5 (.slice A1 N c1) N (fl5 z) by have h := OWN.out; unfold OwA at h; rwa [hN] at h)
            rw [hN] at i2 hzl ⊢
            clear hz0 hN ST
            have BW1 := Lib.hid (show Below wr.heap.size wr (wr.alloc (.cells #[.int .i64 (N : Int), .int .i64 0, .int .i64 0, .int .i64 (p : Int), .bool m] 39)) from (Below.refl wr.heap.size wr).alloc (Nat.le_refl _) _)
            have OW1 := Lib.hid (show (wr.alloc (.cells #[.int .i64 (N : Int), .int .i64 0, .int .i64 0, .int .i64 (p : Int), .bool m] 39)).ownsRow w2.heap.size 39 5 (.slice A1 N c1) N (fl5 z) from own_below OWN.out BW1.out)
            have hsz1 : (wr.alloc (.cells #[.int .i64 (N : Int), .int .i64 0, .int .i64 0, .int .i64 (p : Int), .bool m] 39)).heap.size = wr.heap.size + 1 := by simp
            have NF := Lib.hid (show ∀ j, j < 5 → ((wr.alloc (.cells #[.int .i64 (N : Int), .int .i64 0, .int .i64 0, .int .i64 (p : Int), .bool m] 39)).alloc (.cells #[.int .i64 (N : Int), .int .i64 0, .int .i64 0, .int .i64 (p : Int), .bool m] 39)).cell? ⟨wr.heap.size + 1, j, none⟩ = ([.int .i64 (N : Int), .int .i64 0, .int .i64 0, .int .i64 (p : Int), .bool m] : List Value)[j]? by
              have h := new5s (wr.alloc (.cells #[.int .i64 (N : Int), .int .i64 0, .int .i64 0, .int .i64 (p : Int), .bool m] 39)) (.int .i64 (N : Int)) (.int .i64 0) (.int .i64 0) (.int .i64 (p : Int)) (.bool m) 39
              rw [hsz1] at h
              exact h)
            have BW2 := Lib.hid (show Below w2.heap.size w2 ((wr.alloc (.cells #[.int .i64 (N : Int), .int .i64 0, .int .i64 0, .int .i64 (p : Int), .bool m] 39)).alloc (.cells #[.int .i64 (N : Int), .int .i64 0, .int .i64 0, .int .i64 (p : Int), .bool m] 39)) from (BEL.out.trans (BW1.out.mono hs)).alloc (by rw [hsz1]; exact HS4.out) _)
            clear hsz1
            go_wp2_with (at_builtin; refine list_step (fun K hK => ?_); refine step_appN Try.underlying46 info_ad99 rfl (by omega) (by omega) rfl (.tmp 49) (.tmp 51) rfl w2.heap.size N _ (fl5 z) rfl (World.ownsRow.alloc OW1.out _) (wr.heap.size + 1) 1 [.int .i64 (N : Int), .int .i64 0, .int .i64 0, .int .i64 (p : Int), .bool m] rfl rfl NF.out (by simp [Value.oneCell']) (by omega) (by simp; omega) ?_; intro A3 c3 w4 hown4 hg4 hbel4; go_simp; refine hK _ _ ?_; clear hK K)
            go_roundw
            case rel => exact ⟨k + 1, A3, c3, by omega, by rw [NP.out], by rw [EN.out, List.length_append, EZ.out]; rfl, by rw [EN.out]; exact own_snoc5 EZ.out hown4, BW2.out.trans hbel4⟩
            case measure => simp [intOf]
      · have hk' : k = T := by omega
        subst hk'
        have ip : ¬ (0 : Int) ≤ (k : Int) - 1 - (k : Int) := by omega
        go_wp2
        go_ret
        exact ⟨A1, c1, by rw [E.out]; rfl, by rw [E.out]; exact OWN.out.base hs2, XB.out.trans (BEL.out.mono hs2)⟩
end Go.Proofs.Ytbohakifjmdoiaa
