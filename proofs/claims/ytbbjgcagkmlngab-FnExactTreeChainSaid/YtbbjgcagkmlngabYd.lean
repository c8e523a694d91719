/- The tree of powers, by the model. -/
import Derived.Test.YtbbjgcagkmlngabYc
import Derived.Deep.LoopGhost
namespace Go.Proofs.Ytbbjgcagkmlngab
open Go.RowKit

theorem ab_zero {n j : Nat} {s : TS} {ab : List Int} (h : Ab n s ab) (h2 : 2 ≤ j) : s.W j = [] ∧ ab.getD j 0 = 0 ∨ s.W j ≠ [] ∧ 1 ≤ ab.getD j 0 ∧ ab.getD j 0 < j := by
  by_cases h0 : s.W j = []
  · exact .inl ⟨h0, h.no j h0⟩
  · obtain ⟨m, q1, q2, q3, _⟩ := h.yes j h2 h0
    exact .inr ⟨h0, by rw [q3]; omega, by rw [q3]; omega⟩
theorem drop_app {l r : List Nat} {k : Nat} (h : k ≤ l.length) : (l ++ r).drop k = l.drop k ++ r := List.drop_append_of_le_length h

/-- Where the work stands: the numbers above, the numbers added behind the first q. -/
structure Tw (w wr : World) (n q : Nat) (s : TS) (nv : Value) (k : Nat) : Prop where
  ab : ∃ ab, Ab n s ab ∧ OwI wr w.heap.size (.slice (some ⟨w.heap.size, 0, none⟩) (n + 1) (n + 1)) ab
  nx : OwI wr (w.heap.size + 1) nv (cs (s.Q.drop q))
  len : (s.Q.drop q).length = k
  bel : Below w.heap.size w wr
  sz : w.heap.size + 1 ≤ wr.heap.size
  le : q ≤ s.Q.length
/-- A row beside the work that does not change. -/
def Ro (wr : World) (B : Nat) (v nv : Value) (l : List Int) : Prop := OwI wr B v l ∧ Apt v nv

theorem Tw.more {w wr w' : World} {n q k : Nat} {s : TS} {nv : Value} (h : Tw w wr n q s nv k) (hb : Below wr.heap.size wr w') : Tw w w' n q s nv k := by
  obtain ⟨⟨ab, h1, h2⟩, h3, h4, h5, h6, h7⟩ := h
  have := hb.size
  exact ⟨⟨ab, h1, h2.below hb⟩, h3.below hb, h4, h5.trans (hb.mono (by omega)), by omega, h7⟩
theorem Ro.more {wr w' : World} {B : Nat} {v nv : Value} {l : List Int} (h : Ro wr B v nv l) (hb : Below wr.heap.size wr w') : Ro w' B v nv l := ⟨h.1.below hb, h.2⟩
theorem Tw.add {w wr w2 : World} {n q k m a g cap : Nat} {s : TS} {nv : Value} {o : Obj} (h : Tw w wr n q s nv k) (hm : s.W m ≠ []) (h1 : 1 ≤ a) (hm1 : 1 ≤ m) (hle : m + a ≤ n) (h0 : s.W (m + a) = [])
    (hown : OwI w2 (w.heap.size + 1) (.slice (some ⟨g, 0, none⟩) (k + 1) cap) (cs (s.Q.drop q) ++ [(m : Int) + (a : Int)]))
    (hg : ((wr.setCell ⟨w.heap.size, m + a, none⟩ (.int .i64 (m : Int))).alloc o).grownBy w2 nv.ownBlock) (hb : Below (w.heap.size + 1) ((wr.setCell ⟨w.heap.size, m + a, none⟩ (.int .i64 (m : Int))).alloc o) w2) :
    Tw w w2 n q (tA n m s a) (.slice (some ⟨g, 0, none⟩) (k + 1) cap) (k + 1) := by
  obtain ⟨⟨ab, q1, q2⟩, q3, q4, q5, q6, q7⟩ := h
  have hset := (own_store (i := m + a) (x := (m : Int)) q2 q1.len).2
  have e : tA n m s a = ⟨updW s.W (m + a) (s.W m ++ [m + a]), s.Q ++ [m + a]⟩ := tA_yes hle h0
  have hQ : (tA n m s a).Q.drop q = s.Q.drop q ++ [m + a] := by rw [e]; exact drop_app q7
  refine ⟨⟨_, q1.add hm h1 hm1 hle h0, ?_⟩, ?_, ?_, ?_, ?_, ?_⟩
  · refine World.ownsRow.kept (hset.alloc _) hg (.inr fun e' => ?_)
    have := own_block q3 w.heap.size (by rw [← e']; rfl)
    omega
  · rw [hQ, cs_snoc]
    have e2 : ((m + a : Nat) : Int) = (m : Int) + (a : Int) := by omega
    rw [e2]
    exact hown
  · rw [hQ, List.length_append, q4]
    rfl
  · have z : wr.heap.size ≤ (wr.setCell ⟨w.heap.size, m + a, none⟩ (.int .i64 (m : Int))).heap.size := by simp
    exact (q5.setCell (Nat.le_refl _) _).trans (((Below.refl _ _).alloc (by simp; omega) _).trans (hb.mono (by omega)))
  · have := hb.size
    simp at this
    omega
  · rw [e]
    show q ≤ (s.Q ++ [m + a]).length
    rw [List.length_append]
    omega
theorem Ro.add {w wr w2 : World} {k' m a g cap B : Nat} {v nv : Value} {l : List Int} {o : Obj} (hr : Ro wr B v nv l) (hB : w.heap.size + 1 ≤ B)
    (hg : ((wr.setCell ⟨w.heap.size, m + a, none⟩ (.int .i64 (m : Int))).alloc o).grownBy w2 nv.ownBlock) (hat : nv.ownBlock = some g ∨ wr.heap.size ≤ g) :
    Ro w2 B v (.slice (some ⟨g, 0, none⟩) k' cap) l := by
  obtain ⟨r1, r2⟩ := hr
  exact ⟨Apt.kept ((own_lo r1 (by omega) _).alloc _) r2 hg, Apt.next r1 r2 hat⟩

theorem Tw.fresh {w wr : World} {n q k : Nat} {s : TS} {nv : Value} (h : Tw w wr n q s nv k) : Tw w wr n s.Q.length s (.slice none 0 0) 0 := by
  obtain ⟨h1, _, _, h2, h3, _⟩ := h
  have e : s.Q.drop s.Q.length = [] := List.drop_length
  exact ⟨h1, by rw [e]; exact OwI.nil _ _, by rw [e]; rfl, h2, h3, Nat.le_refl _⟩
theorem Apt.nil (v : Value) : Apt v (.slice none 0 0) := fun _ _ e => by cases e
theorem Apt.fresh {w : World} {B B' n c n' c' e : Nat} {e' : TypeId} {A : Option Addr} {nv : Value} {xs ys : List Value} (h : w.ownsRow B e' 1 (.slice A n c) n xs) {w0 : World} (h' : w0.ownsRow B' e n' nv c' ys) (hle : w0.heap.size ≤ B) : Apt (.slice A n c) nv := by
  intro k hk e
  have h1 := own_block h k hk
  have h2 := own_block h' k e
  omega
theorem drop_at {l : List Nat} {t i : Nat} : (l.drop t).getD i 0 = l.getD (t + i) 0 := by
  rw [List.getD_eq_getElem?_getD, List.getElem?_drop, ← List.getD_eq_getElem?_getD]

set_option maxRecDepth 100000 in
set_option maxHeartbeats 4000000 in
theorem meTree_any (n : Nat) (w : World) (h1 : 1 ≤ n) (hn : n ≤ 400) :
    Calls Try.prog 121 #[.int .i64 (n : Int)] w fun e w' => ∃ A' c', e = .returned (.slice A' (twN n).length c') ∧ OwI w' w.heap.size (.slice A' (twN n).length c') (cs (twN n)) ∧ Below w.heap.size w w' := by
  have hmk : ∀ W : World, (Instr.makeSlice 22 (.int .i64 ((n : Int) + 1)) (.int .i64 ((n : Int) + 1))).run Try.prog W = .ok (.slice (some ⟨W.heap.size, 0, none⟩) (n + 1) (n + 1)) (W.alloc (.cells (madeCells #[.int .i64 0] (n + 1)) 3)) := run_make_row' (P := Try.prog) 22 3 (.int .i64 0) 8 Try.underlying22 info_int rfl .i64 .i64 (n + 1) (by omega) (by omega)
  have hz := zeros_ownB (w := w) (B := w.heap.size) (n + 1) (by omega) (Nat.le_refl _)
  have HZ := Lib.hid hz
  clear hz
  go_enter Try.func121, Try.ntmps121
  go_wp2
  clear hmk
  generalize hw1 : World.alloc (World.alloc w _) _ = w1
  have hT : Tw w w1 n 0 tZ (.slice (some ⟨w.heap.size + 1, 0, none⟩) 1 1) 1 := by
    rw [← hw1]
    refine ⟨⟨_, Ab.start n, HZ.out.alloc _⟩, ?_, rfl, ((Below.refl _ _).alloc (Nat.le_refl _) _).alloc (by simp) _, by simp, Nat.zero_le _⟩
    have := own_one (w := w.alloc (.cells (madeCells #[Value.int .i64 0] (n + 1)) 3)) (B := w.heap.size + 1) 1 (by simp)
    simp only [World.size_alloc] at this
    exact this
  have HT := Lib.hid hT
  clear hw1 hT HZ
  go_loopg [4] n (fun g lv wr => ∃ (t k : Nat) (AL : Option Addr) (cL : Nat), g = n - t ∧ t ≤ (tR n t).Q.length ∧ lv = .slice AL k cL ∧ Tw w wr n t (tR n t) (.slice AL k cL) k)
  case atStart => exact ⟨0, 1, _, 1, rfl, Nat.zero_le _, rfl, HT.out⟩
  case round =>
    obtain ⟨t, k, AL, cL, hg, htQ, rfl, hT⟩ := hrel
    have hI := tR_inv h1 t
    have hQn := tI_len hI
    obtain ⟨s, hs⟩ : ∃ s, tR n t = s := ⟨_, rfl⟩
    rw [hs] at htQ hT hI hQn
    have HG := Lib.hid hg
    have HS := Lib.hid hs
    have HTW := Lib.hid hT
    have HI := Lib.hid hI
    obtain ⟨ab, hab, hown⟩ := hT.ab
    have BEL := Lib.hid hT.bel
    clear hT
    have hsz := HTW.out.sz
    obtain ⟨g0, hg0, _, hg2, hcells⟩ := own_cells hown hab.len (by omega)
    injection hg0 with hg0
    injection hg0 with hg0 _ _
    subst hg0
    by_cases hdone : s.W n ≠ []
    · have RD := Lib.hid (show Rd wr wr.heap.size 1 (some ⟨w.heap.size, 0, none⟩) (n + 1) (ab.map I) from by
        have h := OwI.rd (by rw [hab.len]; exact hown)
        rw [hab.len] at h
        exact h)
      have HW := Lib.hid (fun W (hr : Rd W wr.heap.size 1 (some ⟨w.heap.size, 0, none⟩) (n + 1) (ab.map I)) (hz : wr.heap.size ≤ W.heap.size) => meWay_any wr.heap.size (some ⟨w.heap.size, 0, none⟩) (n + 1) n n s ab W hz hn hab hI hdone hr)
      have E := Lib.hid (show s.W n = twN n from by
        rw [← hs] at hdone ⊢
        exact tw_spec h1 (by omega) hdone)
      rcases Nat.lt_or_eq_of_le h1 with hn2 | hn2
      · have hz := ab_zero hab hn2
        rcases hz with ⟨h0, hq1⟩ | ⟨hq1, hp, hq2⟩
        · exact absurd h0 hdone
        have hc := hcells n (by omega)
        obtain ⟨p, hpp⟩ : ∃ p, ab.getD n 0 = p := ⟨_, rfl⟩
        rw [hpp] at hc hp
        have hpb : (p == 0) = false := by simp; omega
        have in2 : (1 : Int) < (n : Int) := by omega
        clear hcells hown hab hdone hs hg hpp hq1 hq2 hI
        go_wp2_with (go_at_call 151; refine (HW.out _ RD.out (Nat.le_refl _)).mono ?_; rintro e w2 ⟨A2, c2, rfl, ho2, hb2⟩)
        go_ret
        refine ⟨A2, c2, by rw [E.out]; rfl, ?_, ?_⟩
        · rw [← E.out]; exact ho2.base (by omega)
        · exact BEL.out.trans (hb2.mono (by omega))
      · have in2 : ¬ (1 : Int) < (n : Int) := by omega
        clear hcells hown hab hdone hs hg hI hn2
        go_wp2_with (go_at_call 151; refine (HW.out _ RD.out (Nat.le_refl _)).mono ?_; rintro e w2 ⟨A2, c2, rfl, ho2, hb2⟩)
        go_ret
        refine ⟨A2, c2, by rw [E.out]; rfl, ?_, ?_⟩
        · rw [← E.out]; exact ho2.base (by omega)
        · exact BEL.out.trans (hb2.mono (by omega))
    · have h0 : s.W n = [] := Classical.not_not.1 hdone
      have hn2 : 2 ≤ n := by
        rcases Nat.lt_or_eq_of_le h1 with h' | h'
        · exact h'
        · rw [← h', hI.one] at h0
          cases h0
      have htk : t < s.Q.length := by
        have h := tR_more h1 (Nat.le_refl n) (t := t) (by rw [hs]; exact htQ) (by rw [hs]; exact h0)
        rw [hs] at h
        exact h
      have hc := hcells n (by omega)
      rw [hab.no n h0] at hc
      have in2 : (1 : Int) < (n : Int) := by omega
      have hkl := HTW.out.len
      have hk1 : t + k = s.Q.length := by rw [← hkl, List.length_drop]; omega
      obtain ⟨gL, hgL0, hgL1, hgL2, hcL⟩ := own_cells HTW.out.nx (by rw [cs_len]; exact hkl) (by omega)
      subst hgL0
      obtain ⟨q, hq⟩ : ∃ q, s.Q.length = q := ⟨_, rfl⟩
      have hkq : t + k = q := by omega
      have HQ := Lib.hid hq
      have HKQ := Lib.hid hkq
      have HLE := Lib.hid (show ∀ i, TLe s (tR n (t + i)) from fun i => by rw [← hs]; exact tR_le h1 t i)
      have hqn : t + k ≤ n := by omega
      have hk1' : 1 ≤ k := by omega
      obtain ⟨wo, rfl⟩ : ∃ wo, wo = wr := ⟨_, rfl⟩
      clear hcells hown hab hdone h0 hcL hkl hk1 hq hs hg hI htQ htk hkq
      go_wp2
      clear hc
      go_loopw [5, 25] (fun nv iv wq => ∃ (i kn : Nat) (AN : Option Addr) (cN : Nat), i ≤ k ∧ iv = .int .i64 (i : Int) ∧ nv = .slice AN kn cN ∧ Tw w wq n q (tR n (t + i)) (.slice AN kn cN) kn ∧ Ro wq (w.heap.size + 1) (.slice (some ⟨gL, 0, none⟩) k cL) (.slice AN kn cN) (cs (s.Q.drop t))) (fun _ i _ => k - (intOf i).toNat)
      case atStart =>
        refine ⟨0, 0, none, 0, by omega, rfl, rfl, ?_, HTW.out.nx, Apt.nil _⟩
        have h := HTW.out.fresh
        rw [HQ.out] at h
        rw [Nat.add_zero, HS.out]
        exact h
      case round =>
        obtain ⟨i, kn, AN, cN, hik, rfl, rfl, hT, hR⟩ := hrel
        obtain ⟨s', hs'⟩ : ∃ s', tR n (t + i) = s' := ⟨_, rfl⟩
        have hI' := tR_inv h1 (t + i)
        have hle' := HLE.out i
        have hnext : tR n (t + (i + 1)) = tM n ((tR n (t + i)).Q.getD (t + i) 0) (tR n (t + i)) := rfl
        rw [hs'] at hT hI' hle' hnext
        have HT' := Lib.hid hT
        have HR' := Lib.hid hR
        have HI' := Lib.hid hI'
        have HS' := Lib.hid hs'
        have hszr := HT'.out.sz
        clear hT hs'
        by_cases hlt : i < k
        · obtain ⟨m, hm⟩ : ∃ m, (s.Q.drop t).getD i 0 = m := ⟨_, rfl⟩
          have hmq : s'.Q.getD (t + i) 0 = m := by rw [hle'.qat (by rw [HQ.out, ← HKQ.out]; omega), ← drop_at]; exact hm
          rw [hmq] at hnext
          have hlt' : t + i < s'.Q.length := by have := hle'.qlen; rw [HQ.out, ← HKQ.out] at this; omega
          have hWm : s'.W m ≠ [] := (hI'.mem m).1 (by rw [← hmq]; exact getD_mem hlt')
          have hmr := hI'.rng m hWm
          obtain ⟨gL', hgL0, _, hgL3, hcL⟩ := own_cells hR.1 (by rw [cs_len]; exact HTW.out.len) (by omega)
          injection hgL0 with hgL0
          injection hgL0 with hgL0 _ _
          subst hgL0
          have hcl := hcL i hlt
          rw [cs_getD, hm] at hcl
          obtain ⟨ab', hab', hown'⟩ := HT'.out.ab
          have RD := Lib.hid (show Rd wr wr.heap.size 1 (some ⟨w.heap.size, 0, none⟩) (n + 1) (ab'.map I) from by
            have h := OwI.rd (by rw [hab'.len]; exact hown')
            rw [hab'.len] at h
            exact h)
          have HW := Lib.hid (fun W (hr : Rd W wr.heap.size 1 (some ⟨w.heap.size, 0, none⟩) (n + 1) (ab'.map I)) (hz : wr.heap.size ≤ W.heap.size) => meWay_any wr.heap.size (some ⟨w.heap.size, 0, none⟩) (n + 1) n m s' ab' W hz hn hab' hI' hWm hr)
          have HN := Lib.hid hnext
          have HWM := Lib.hid hWm
          have ilk : (i : Int) < (k : Int) := by omega
          obtain ⟨lw, hlw⟩ : ∃ lw, (s'.W m).length = lw := ⟨_, rfl⟩
          have HLW := Lib.hid hlw
          have hlw1 : 1 ≤ lw ∧ lw ≤ 400 := by
            have := hI'.len m
            have : (s'.W m).length ≠ 0 := fun e => hWm (List.eq_nil_of_length_eq_zero e)
            omega
          rw [hlw] at HW
          clear hI' hle' hnext hm hmq hlt' hWm hcL hab' hown' hR hlw
          go_wp2_with (go_at_call 151; refine (HW.out _ RD.out (Nat.le_refl _)).mono ?_; rintro e w2 ⟨A2, c2, rfl, ho2, hb2⟩)
          have hT2 := HT'.out.more hb2
          have hR2 := HR'.out.more hb2
          have hap : Apt (.slice A2 lw c2) (.slice AN kn cN) := by
            have h' := ho2
            unfold OwI at h'
            rw [cs_len, HLW.out] at h'
            have h := HT'.out.nx
            unfold OwI at h
            exact Apt.fresh h' h (Nat.le_refl _)
          have hR3 : Ro w2 (w.heap.size + 1) (.slice A2 lw c2) (.slice AN kn cN) (cs (s'.W m)) := ⟨ho2.base (by omega), hap⟩
          have hs2 := hb2.size
          obtain ⟨gW, hgW0, hgW1, hgW2, hcW⟩ := own_cells ho2 (by rw [cs_len]; exact HLW.out) (by omega)
          subst hgW0
          have HT2 := Lib.hid hT2
          have HR2 := Lib.hid hR2
          have HR3 := Lib.hid hR3
          clear hT2 hR2 hR3 hap ho2 hb2 hcW hcl
          obtain ⟨wm, rfl⟩ : ∃ wm, wm = wr := ⟨_, rfl⟩
          go_loopw [5, 33] (fun nv jv wq => ∃ (j kq : Nat) (AQ : Option Addr) (cQ : Nat), j ≤ lw ∧ jv = .int .i64 (j : Int) ∧ nv = .slice AQ kq cQ ∧ Tw w wq n q (tJ n m s' j) (.slice AQ kq cQ) kq ∧ Ro wq (w.heap.size + 1) (.slice (some ⟨gL, 0, none⟩) k cL) (.slice AQ kq cQ) (cs (s.Q.drop t)) ∧ Ro wq (w.heap.size + 1) (.slice (some ⟨gW, 0, none⟩) lw c2) (.slice AQ kq cQ) (cs (s'.W m))) (fun _ j _ => lw - (intOf j).toNat)
          case atStart => exact ⟨0, kn, AN, cN, by omega, rfl, rfl, HT2.out, HR2.out, HR3.out⟩
          case round =>
            obtain ⟨j, kq, AQ, cQ, hj, rfl, rfl, hTq, hRq, hSq⟩ := hrel
            have hJ := tJ_facts HI'.out HWM.out j
            have hJs := fun h => tJ_succ n m s' (j := j) h
            obtain ⟨S, hS⟩ : ∃ S, tJ n m s' j = S := ⟨_, rfl⟩
            rw [hS] at hTq hJ hJs
            obtain ⟨hSI, hSle, hSm⟩ := hJ
            have HTq := Lib.hid hTq
            have HRq := Lib.hid hRq
            have HSq := Lib.hid hSq
            have HSS := Lib.hid hS
            clear hTq hRq hS
            by_cases hjl : j < lw
            · obtain ⟨a, ha⟩ : ∃ a, (s'.W m).getD j 0 = a := ⟨_, rfl⟩
              have hjl' : j < (s'.W m).length := by rw [HLW.out]; exact hjl
              have hae : (s'.W m)[j] = a := by rw [← ha, List.getD_eq_getElem?_getD, List.getElem?_eq_getElem hjl']; rfl
              have har := HI'.out.els m a (by rw [← ha]; exact getD_mem hjl')
              have hstep := hJs hjl'
              rw [hae] at hstep
              obtain ⟨gW', hgW0, _, hgW3, hcW⟩ := own_cells hSq.1 (by rw [cs_len]; exact HLW.out) (by omega)
              injection hgW0 with hgW0
              injection hgW0 with hgW0 _ _
              subst hgW0
              have hcw := hcW j hjl
              rw [cs_getD, ha] at hcw
              obtain ⟨ab', hab', hown'⟩ := HTq.out.ab
              obtain ⟨g0, hg0, _, hg3, hcells⟩ := own_cells hown' hab'.len (by omega)
              injection hg0 with hg0
              injection hg0 with hg0 _ _
              subst hg0
              have ijl : (j : Int) < (lw : Int) := by omega
              have HSM : S.W m ≠ [] := by rw [hSm]; exact HWM.out
              by_cases hle : m + a ≤ n
              · have ile : (m : Int) + (a : Int) ≤ (n : Int) := by omega
                have hca := hcells (m + a) (by omega)
                rcases ab_zero hab' (show 2 ≤ m + a by omega) with ⟨hz0, hz1⟩ | ⟨hz0, hz1, hz2⟩
                · rw [hz1] at hca
                  have hfz := (own_store (i := m + a) (x := (m : Int)) hown' hab'.len).1
                  have HST := Lib.hid hstep
                  have HZ0 := Lib.hid hz0
                  have hkq := tI_len hSI
                  have hkq2 := HTq.out.len
                  rw [List.length_drop] at hkq2
                  have hkq3 : kq ≤ 400 := by omega
                  have NX := Lib.hid ((own_lo (o := m + a) HTq.out.nx (show w.heap.size < w.heap.size + 1 by omega) (.int .i64 (m : Int))))
                  have hszq := HTq.out.sz
                  clear hcells hab' hown' hz0 hz1 hstep hae ha hcW hSq hjl' hSI hSle hSm hJs hkq hkq2
                  go_wp2_with (at_builtin; go_loud (refine wpList_app_intH rfl (.tmp 57) (.tmp 61) rfl (w.heap.size + 1) kq _ (cs (S.Q.drop q)) rfl (NX.out.alloc _) (by rw [cs_len]; exact HTq.out.len) wr.heap.size 1 ((m : Int) + (a : Int)) rfl (by rw [World.cell?_alloc_at _ _ _ _ (by simp)]; rfl) (by omega) (by simp; omega) ?_; intro g3 c3 w3 hown3 hg3 hbel3 hat3))
                  go_roundw
                  case rel =>
                    refine ⟨j + 1, kq + 1, some ⟨g3, 0, none⟩, c3, by omega, by go_num, rfl, ?_, ?_, ?_⟩
                    · rw [HST.out]
                      exact Tw.add HTq.out HSM (by omega) (by omega) hle HZ0.out hown3 hg3 hbel3
                    · exact Ro.add HRq.out (Nat.le_refl _) hg3 (hat3.imp id fun h => by rw [h]; simp)
                    · exact Ro.add HSq.out (Nat.le_refl _) hg3 (hat3.imp id fun h => by rw [h]; simp)
                  case measure => simp [intOf]; omega
                · obtain ⟨p, hp⟩ : ∃ p, ab'.getD (m + a) 0 = p := ⟨_, rfl⟩
                  rw [hp] at hca hz1
                  have hpb : (p == 0) = false := by simp; omega
                  have HST := Lib.hid (hstep.trans (tA_has hz0))
                  clear hcells hab' hown' hz0 hz1 hz2 hstep hae ha hcW hSq hjl' hSI hSle hSm hJs hp
                  go_wp2
                  go_roundw
                  case rel => exact ⟨j + 1, kq, AQ, cQ, by omega, by go_num, rfl, by rw [HST.out]; exact HTq.out, HRq.out, HSq.out⟩
                  case measure => simp [intOf]; omega
              · have ile : ¬ (m : Int) + (a : Int) ≤ (n : Int) := by omega
                have HST := Lib.hid (hstep.trans (tA_big hle))
                clear hcells hab' hown' hstep hae ha hcW hSq hjl' hSI hSle hSm hJs
                go_wp2
                go_roundw
                case rel => exact ⟨j + 1, kq, AQ, cQ, by omega, by go_num, rfl, by rw [HST.out]; exact HTq.out, HRq.out, HSq.out⟩
                case measure => simp [intOf]; omega
            · have hje : j = lw := by omega
              have HE := Lib.hid (show tR n (t + (i + 1)) = S from by
                rw [HN.out, ← tJ_end, HLW.out, ← hje]
                exact HSS.out)
              have ijl : ¬ (j : Int) < (lw : Int) := by omega
              clear hje hSq hSI hSle hSm hJs
              go_wp2
              go_roundw
              case rel => exact ⟨i + 1, kq, AQ, cQ, by omega, by go_num, rfl, by rw [HE.out]; exact HTq.out, HRq.out⟩
              case measure => simp [intOf]; omega
        · have hik2 : i = k := by omega
          have hF := HT'.out
          have hE : tR n (t + k) = s' := by rw [← hik2]; exact HS'.out
          have HE := Lib.hid hE
          have hq1 := tI_len HI'.out
          have hq2 := HT'.out.le
          have ilk : ¬ (i : Int) < (k : Int) := by omega
          clear hI' hle' hnext hR hE hF hik2
          go_wp2
          go_roundg (n - (t + k))
          case measure => rw [HG.out]; omega
          case rel =>
            refine ⟨t + k, kn, AN, cN, rfl, ?_, rfl, ?_⟩
            · rw [HE.out, HKQ.out]; exact hq2
            · rw [HE.out, HKQ.out]; exact HT'.out
end Go.Proofs.Ytbbjgcagkmlngab
