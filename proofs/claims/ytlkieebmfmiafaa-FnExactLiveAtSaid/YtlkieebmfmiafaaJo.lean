/- Values that are used later, by the program. -/
import Derived.Test.YtlkieebmfmiafaaJl
import Derived.Test.YtlkieebmfmiafaaJe
namespace Go.Proofs.Ytlkieebmfmiafaa
open Go.RowKit

/-- One of the first j uses is behind the first k steps. -/
def anyK (l : List Int) (k : Int) (j : Nat) : Bool := (l.take j).any fun i => decide (k ≤ i)
theorem anyK_succ {l : List Int} {k : Int} {j : Nat} (h : j < l.length) : anyK l k (j + 1) = (anyK l k j || decide (k ≤ l[j])) := by
  unfold anyK
  rw [List.take_succ_eq_append_getElem h, List.any_append]
  simp
theorem anyK_mono {l : List Int} {k : Int} {j : Nat} (h : anyK l k j = true) : anyK l k l.length = true := by
  unfold anyK at h ⊢
  rw [List.any_eq_true] at h ⊢
  obtain ⟨x, hx, h2⟩ := h
  exact ⟨x, by rw [List.take_length]; exact List.mem_of_mem_take hx, h2⟩

set_option maxRecDepth 100000 in
set_option maxHeartbeats 1000000 in
theorem behind1_any (g : Nat) (x k : Int) (w : World) (hg : w.cell? ⟨g, 0, none⟩ = some (.int .i64 k)) :
    Calls Try.prog 136 #[.int .i64 x, .pointer (some ⟨g, 0, none⟩)] w fun e w' => e = .returned (.bool (decide (k ≤ x))) ∧ w = w' := by
  go_enter Try.func136, Try.ntmps136
  go_wp2
  go_ret
  exact ⟨rfl, rfl⟩

set_option maxRecDepth 100000 in
set_option maxHeartbeats 2000000 in
theorem indexBehind_any (B g : Nat) (A : Option Addr) (c : Nat) (k : Int) (l : List Int) (w : World) (hl : l.length ≤ 1000) (hg : w.cell? ⟨g, 0, none⟩ = some (.int .i64 k)) (hr : Rd w B 1 A l.length (l.map I)) :
    Calls Try.prog 138 #[.slice A l.length c, .func (.func 136) #[] #[.pointer (some ⟨g, 0, none⟩)]] w fun e w' => (∃ i : Int, e = .returned (.int .i64 i) ∧ decide (0 ≤ i) = anyK l k l.length) ∧ w = w' := by
  have H := Lib.hid hr
  have HG := Lib.hid hg
  clear hr hg
  go_enter Try.func138, Try.ntmps138
  go_wp2
  go_loopw [8] (fun iv wr => ∃ j : Nat, j ≤ l.length ∧ iv = .int .i64 j ∧ anyK l k j = false ∧ w = wr) (fun i _ => l.length - (intOf i).toNat)
  case atStart => exact ⟨0, by omega, rfl, rfl, rfl⟩
  case round =>
    obtain ⟨j, hj, rfl, hno, rfl⟩ := hrel
    by_cases hlt : j < l.length
    · have iqk : (j : Int) < (l.length : Int) := by omega
      obtain ⟨b, off, rfl, hb, hc⟩ := H.out.int hlt
      have hno2 := anyK_succ (k := k) hlt
      rw [hno, Bool.false_or] at hno2
      obtain ⟨x, hx⟩ : ∃ x, l[j] = x := ⟨_, rfl⟩
      rw [hx] at hc hno2
      obtain ⟨t, ht⟩ : ∃ t, decide (k ≤ x) = t := ⟨_, rfl⟩
      rw [ht] at hno2
      have HB := behind1_any g x k w HG.out
      rw [ht] at HB
      have HB := Lib.hid HB
      have NO2 := Lib.hid hno2
      clear hno hno2 hx ht
      go_wp2_with fail
      refine HB.out.mono ?_
      rintro e w5 ⟨rfl, rfl⟩
      cases t with
      | true =>
        go_wp2
        go_ret
        refine ⟨⟨_, rfl, ?_⟩, rfl⟩
        rw [anyK_mono NO2.out]
        exact decide_eq_true (by omega)
      | false =>
        go_wp2
        go_roundw
        case rel => exact ⟨j + 1, by omega, by go_num, NO2.out, trivial⟩
        case measure => simp [intOf]; omega
    · have hj' : j = l.length := by omega
      subst hj'
      go_wp2
      go_ret
      exact ⟨⟨_, rfl, by rw [hno]; rfl⟩, rfl⟩

set_option maxRecDepth 100000 in
set_option maxHeartbeats 1000000 in
theorem containsBehind_any (B g : Nat) (A : Option Addr) (c : Nat) (k : Int) (l : List Int) (w : World) (hl : l.length ≤ 1000) (hg : w.cell? ⟨g, 0, none⟩ = some (.int .i64 k)) (hr : Rd w B 1 A l.length (l.map I)) :
    Calls Try.prog 135 #[.slice A l.length c, .func (.func 136) #[] #[.pointer (some ⟨g, 0, none⟩)]] w fun e w' => e = .returned (.bool (anyK l k l.length)) ∧ w = w' := by
  have HI := Lib.hid (indexBehind_any B g A c k l w hl hg hr)
  clear hr hg
  go_enter Try.func135, Try.ntmps135
  go_wp2_with fail
  go_at_call 138
  refine HI.out.mono ?_
  rintro e w2 ⟨⟨i, rfl, hi⟩, rfl⟩
  have HII := Lib.hid hi
  clear hi
  go_wp2
  go_ret
  exact ⟨by rw [← HII.out]; rfl, rfl⟩

set_option maxRecDepth 100000 in
set_option maxHeartbeats 1000000 in
theorem isBehind_any (B : Nat) (O S : Option Addr) (n co cs : Nat) (k : Int) (l : List Int) (w : World) (hl : l.length ≤ 1000) (hB : B ≤ w.heap.size) (hr : Rd w B 1 S l.length (l.map I)) :
    Calls Try.prog 120 #[.agg #[.slice O n co, .slice S l.length cs], .int .i64 k] w fun e w' => e = .returned (.bool (decide (0 < n) || anyK l k l.length)) ∧ Below w.heap.size w w' := by
  have H := Lib.hid hr
  clear hr
  by_cases hn : 0 < n
  · have hq : (0 : Int) < (n : Int) := by omega
    have E := Lib.hid (decide_eq_true hn)
    clear hn
    go_enter Try.func120, Try.ntmps120
    go_wp2
    go_ret
    exact ⟨by rw [E.out]; rfl, ((Below.refl _ _).alloc (Nat.le_refl _) _).alloc (by simp) _⟩
  · have hq : ¬ (0 : Int) < (n : Int) := by omega
    have E := Lib.hid (decide_eq_false hn)
    obtain ⟨t, ht⟩ : ∃ t, anyK l k l.length = t := ⟨_, rfl⟩
    have HC := Lib.hid (fun W g hg hr => containsBehind_any B g S cs k l W hl hg hr)
    rw [ht] at HC
    rw [ht]
    clear hn ht
    go_enter Try.func120, Try.ntmps120
    go_wp2_with fail
    go_at_call 135
    generalize hw1 : World.alloc w _ = w1
    obtain ⟨_, _, xs, xb⟩ := box2 hw1
    clear hw1
    generalize hw2 : World.alloc w1 _ = w2
    have ys : w2.cell? ⟨w.heap.size + 1, 0, none⟩ = some (.int .i64 k) := by
      subst hw2
      rw [← xs, World.cell?_alloc_at _ _ _ _ rfl]
      rfl
    have yb : Below w1.heap.size w1 w2 := by subst hw2; exact (Below.refl _ _).alloc (Nat.le_refl _) _
    clear hw2
    have HB2 := Lib.hid (xb.trans (yb.mono (by omega)))
    refine (HC.out w2 (w.heap.size + 1) ys (H.out.below' HB2.out hB)).mono ?_
    rintro e w3 ⟨rfl, rfl⟩
    clear ys yb xb xs
    go_wp2
    go_ret
    exact ⟨by rw [E.out]; rfl, HB2.out⟩

/-- What liveAt looks at is told by the data. -/
theorem lvB_any (s : List (Int × Int)) (o : List Int) (k : Nat) (v : Int) : lvB s o k v = (decide (0 < (usO o v o.length).length) || anyK (usS s v s.length) (k : Int) (usS s v s.length).length) := by
  unfold lvB anyK
  rw [List.take_length]

theorem box4w {w w1 : World} {a b c d : Value} {t : TypeId} (h : w.alloc (.cells #[a, b, c, d] t) = w1) :
    (w1.cell? ⟨w.heap.size, 0, none⟩ = some a ∧ w1.cell? ⟨w.heap.size, 1, none⟩ = some b ∧ w1.cell? ⟨w.heap.size, 2, none⟩ = some c ∧ w1.cell? ⟨w.heap.size, 3, none⟩ = some d) ∧ w1.heap.size = w.heap.size + 1 ∧ Below w.heap.size w w1 :=
  let ⟨h0, h1, h2, h3, hs, hb⟩ := box4 h
  ⟨⟨h0, h1, h2, h3⟩, hs, hb⟩

set_option maxRecDepth 100000 in
set_option maxHeartbeats 4000000 in
theorem liveAt_any (B N R k : Nat) (A1 A2 A : Option Addr) (c1 c2 c : Nat) (p : Pl) (w : World) (hs40 : p.s.length ≤ 40) (ho6 : p.o.length ≤ 6) (hR : R ≤ 46) (hNk : N + k ≤ R) (hB : B ≤ w.heap.size) (hr : RdP w B A1 A2 p) :
    Calls Try.prog 86 #[.agg #[.int .i64 N, .slice A1 p.s.length c1, .slice A2 p.o.length c2, .slice A R c], .int .i64 (k : Int)] w fun e w' =>
      ∃ A' c', e = .returned (.slice A' (liv N p.s p.o k).length c') ∧ OwI w' w.heap.size (.slice A' (liv N p.s p.o k).length c') (liv N p.s p.o k) ∧ Below w.heap.size w w' := by
  have US := Lib.hid (fun W hW hr => allUses_any B N R A1 A2 A c1 c2 c p W hs40 ho6 hR hW hr)
  have H := Lib.hid hr
  have hw1 : IntKind.i64.wrap ((N : Int) + (k : Int)) = ((N + k : Nat) : Int) := by rw [IntWalk.i64_in _ (by omega)]; omega
  obtain ⟨M, hM⟩ : ∃ M, N + k = M := ⟨_, rfl⟩
  have EL := Lib.hid (show liv N p.s p.o k = livK p.s p.o k M by unfold liv; rw [hM])
  rw [hM] at hw1 hNk
  have iMR : (M : Int) ≤ (R : Int) := by omega
  clear hr hM
  go_enter Try.func86, Try.ntmps86
  go_wp2
  generalize hw1 : World.alloc w _ = w1
  obtain ⟨⟨x0, x1, x2, x3⟩, xs, xb⟩ := box4w hw1
  clear hw1
  have FS := Lib.hid (show ∀ x, Below w1.heap.size w1 x → x.cell? ⟨w.heap.size, 0, none⟩ = some (.int .i64 N) ∧ x.cell? ⟨w.heap.size, 1, none⟩ = some (.slice A1 p.s.length c1) ∧ x.cell? ⟨w.heap.size, 2, none⟩ = some (.slice A2 p.o.length c2) ∧ x.cell? ⟨w.heap.size, 3, none⟩ = some (.slice A R c) from fun x hx =>
    ⟨(hx.cell (p := ⟨w.heap.size, 0, none⟩) (by simp only []; omega)).trans x0, (hx.cell (p := ⟨w.heap.size, 1, none⟩) (by simp only []; omega)).trans x1, (hx.cell (p := ⟨w.heap.size, 2, none⟩) (by simp only []; omega)).trans x2, (hx.cell (p := ⟨w.heap.size, 3, none⟩) (by simp only []; omega)).trans x3⟩)
  have S1 := Lib.hid (show Below w1.heap.size w1 w1.drew from (Below.refl _ _).drew)
  clear x0 x1 x2 x3
  refine wp_region_T (fun x : World => Below w1.heap.size w1 x) [0, 2, 3, 4, 5, 6, 7, 8, 9] [0, 4] (.lp 2 (.lp 3 (.lp 5 (.lp 9 (.ls 0 (.ls 4 (.lp 6 (.hv 1 (.lp 7 (.lp 8 (.done))))))))))) (by kernel_rfl) (by kernel_rfl) ?_
  (repeat (refine T_lp rfl (fun K hK => ?_); go_simp; refine hK _ ?_; clear hK K))
  refine T_ls1 (v := .agg #[.int .i64 N, .slice A1 p.s.length c1, .slice A2 p.o.length c2, .slice A R c]) rfl rfl S1.out (fun x hx => (by obtain ⟨h0, h1, h2, h3⟩ := FS.out x hx; go_simp)) (fun K hK => ?_)
  (go_simp; refine hK _ ?_; clear hK K)
  refine T_ls1 (v := .int .i64 N) rfl rfl S1.out (fun x hx => (by obtain ⟨h0, h1, h2, h3⟩ := FS.out x hx; go_simp)) (fun K hK => ?_)
  (go_simp; refine hK _ ?_; clear hK K)
  (repeat (refine T_lp rfl (fun K hK => ?_); go_simp; refine hK _ ?_; clear hK K))
  refine T_hvS rfl (fun K hK => ?_)
  go_simp
  go_at_call 63
  refine (US.out w1.drew (by simp; omega) (H.out.below' xb hB).drew).mono ?_
  rintro e w2 ⟨A3, c3, fo, fs, rfl, hU, hb2⟩
  have hb12 : Below w1.heap.size w1 w2 := (Below.refl _ w1).drew.trans hb2
  have HU := Lib.hid hU
  have HB2 := Lib.hid (xb.trans (hb12.mono (by omega)))
  have hs2 : w.heap.size + 1 ≤ w2.heap.size := by have := hb12.size; omega
  have icap : (R : Int) ≤ (c3 : Int) := by have := own_cap hU.1; omega
  have iMc : (M : Int) ≤ (c3 : Int) := by omega
  go_simp
  refine hK _ _ hb12 ?_
  clear hK K hU hb2 hb12 xb xs
  (repeat (first | (refine T_lp rfl (fun K hK => ?_); go_simp; refine hK _ ?_; clear hK K) | (refine T_ls rfl rfl (fun K hK => ?_); go_simp; refine hK _ ?_; clear hK K)))
  refine T_done ?_
  go_wp2
  go_loopw [5, 17] (fun ov iv wr => ∃ (j : Nat) (A4 : Option Addr) (c4 : Nat), j ≤ M ∧ iv = .int .i64 j ∧ ov = .slice A4 (livK p.s p.o k j).length c4 ∧ wr.ownsRow w2.heap.size 3 1 (.slice A4 (livK p.s p.o k j).length c4) (livK p.s p.o k j).length ((livK p.s p.o k j).map I) ∧ Below w2.heap.size w2 wr) (fun _ i _ => M - (intOf i).toNat)
  case atStart => exact ⟨0, none, 0, by omega, rfl, rfl, by simpa [livK] using World.ownsRow_nil _ _ _ _, Below.refl _ _⟩
  case round =>
    obtain ⟨j, A4, c4, hj, rfl, rfl, hown, hbel⟩ := hrel
    have hsz : w2.heap.size ≤ wr.heap.size := hbel.size
    have hle := livK_le p.s p.o k j
    by_cases hlt : j < M
    · have iqj : (j : Int) < (M : Int) := by omega
      have ijR : j < R := by omega
      have hUr := HU.out.below hbel
      obtain ⟨g, rfl, _, hg4, d0, d1⟩ := hUr.at_ ijR
      have hS := (hUr.2 j ijR).2.rd
      have l1 := usS_le p.s (j : Int) p.s.length
      have hlv := lvB_any p.s p.o k (j : Int)
      have hIB := fun W hW hr => isBehind_any wr.heap.size (fo j).1 (fs j).1 (usO p.o (j : Int) p.o.length).length (fo j).2 (fs j).2 (k : Int) (usS p.s (j : Int) p.s.length) W (by omega) hW hr
      rw [← hlv] at hIB
      obtain ⟨t, ht⟩ : ∃ t, lvB p.s p.o k (j : Int) = t := ⟨_, rfl⟩
      rw [ht] at hIB
      obtain ⟨a1, ha1⟩ : ∃ a, fo j = a := ⟨_, rfl⟩
      obtain ⟨a2, ha2⟩ : ∃ a, fs j = a := ⟨_, rfl⟩
      rw [ha1] at d0 hIB
      rw [ha2] at d1 hS hIB
      have HIB := Lib.hid hIB
      have HS := Lib.hid hS
      have HT := Lib.hid ht
      have OWN := Lib.hid hown
      have BEL := Lib.hid hbel
      clear hUr hS hlv hIB ht ha1 ha2 hown hbel
      go_wp2_with fail
      go_at_call 120
      generalize hw5 : World.alloc wr _ = w5
      obtain ⟨e0, e1, es, eb⟩ := box2 hw5
      clear hw5
      refine (HIB.out w5 (by omega) (HS.out.below eb)).mono ?_
      rintro e w6 ⟨rfl, hb6⟩
      have hb56 : Below wr.heap.size wr w6 := eb.trans (hb6.mono (by omega))
      have OWN6 := Lib.hid (own_below OWN.out hb56)
      have BEL6 := Lib.hid (BEL.out.trans (hb56.mono hsz))
      have hs6 : w2.heap.size ≤ w6.heap.size := BEL6.out.size
      clear e0 e1 es eb hb6 hb56 d0 d1
      cases t with
      | false =>
        have MISS := Lib.hid (livK_miss HT.out)
        go_wp2
        go_roundw
        case rel => exact ⟨j + 1, A4, c4, by omega, by go_num, by rw [MISS.out], by rw [MISS.out]; exact OWN6.out, BEL6.out⟩
        case measure => simp [intOf]; omega
      | true =>
        have HIT := Lib.hid (livK_hit HT.out)
        go_wp2_with (at_builtin; refine list_step (fun K hK => ?_); refine step_app1 Try.underlying23 info_int rfl (by omega) rfl (.tmp 25) (.tmp 27) rfl w2.heap.size (livK p.s p.o k j).length _ _ rfl (World.ownsRow.alloc OWN6.out _) w6.heap.size 1 (I (j : Int)) rfl (by simp) rfl (by omega) (by simp; omega) ?_; intro A7 c7 w7 hown7 hg7 hbel7; go_simp; refine hK _ _ ?_; clear hK K)
        go_roundw
        case rel =>
          have hl : (livK p.s p.o k (j + 1)).length = (livK p.s p.o k j).length + 1 := by rw [HIT.out]; simp
          have hm : (livK p.s p.o k (j + 1)).map I = (livK p.s p.o k j).map I ++ [I (j : Int)] := by rw [HIT.out]; simp
          exact ⟨j + 1, A7, c7, by omega, by go_num, by rw [hl], by rw [hl, hm]; exact hown7, (BEL6.out.alloc hs6 _).trans hbel7⟩
        case measure => simp [intOf]; omega
    · have hj' : j = M := by omega
      subst hj'
      have OWN := Lib.hid (own_base hown (show w.heap.size ≤ w2.heap.size by omega))
      have HB3 := Lib.hid (HB2.out.trans (hbel.mono (by omega)))
      clear hown hbel
      go_wp2
      go_ret
      refine ⟨A4, c4, by rw [EL.out]; rfl, ?_, HB3.out⟩
      show World.ownsRow _ _ _ _ _ _ _
      rw [EL.out]
      exact OWN.out
end Go.Proofs.Ytlkieebmfmiafaa
