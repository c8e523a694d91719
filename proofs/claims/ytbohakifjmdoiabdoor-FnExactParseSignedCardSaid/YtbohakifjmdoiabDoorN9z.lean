/- SignedText of the program. -/
import Derived.Test.YtbohakifjmdoiabDoorN9x
import Derived.Test.YtbohakifjmdoiabDoorN9y
import Derived.Test.YtbohakifjmdoiabDoorRn
import Derived.Maps.AppendAt
namespace Go.Proofs.YtbohakifjmdoiabDoor
open Go.RowKit Go.Shelf

attribute [local go_sem] Oper.semAt_some

/-- The letters' table lies in the world. -/
def LtT (w : World) : Prop := w.cell? ⟨0, 0, none⟩ = some (.int .u8 45) ∧ w.cell? ⟨0, 1, none⟩ = some (.int .u8 48) ∧ w.cell? ⟨0, 2, none⟩ = some (.int .u8 43)
theorem LtT.on {w w' : World} (h : LtT w) (hb : Below w.heap.size w w') : LtT w' :=
  ⟨(hb.cell (World.block_lt_of_cell? w _ h.1)).trans h.1, (hb.cell (World.block_lt_of_cell? w _ h.2.1)).trans h.2.1, (hb.cell (World.block_lt_of_cell? w _ h.2.2)).trans h.2.2⟩
def li (d : Int) : Int := if d < 0 then 45 else if d = 0 then 48 else 43
theorem li_ltr (d : Int) : UInt8.ofNat (li d).toNat = ltr d := by
  unfold li ltr
  split
  · rfl
  · split <;> rfl
/-- What has been written, by places. -/
def bx (l : List Int) (pre : List Nat) : List Int := pre.map fun j => li (l.getD j 0)
theorem bx_snoc (l : List Int) (pre : List Nat) (j : Nat) : bx l (pre ++ [j]) = bx l pre ++ [li (l.getD j 0)] := by simp [bx]
theorem strOf (xs : List Int) : strOfNums xs = ⟨(xs.map fun x => UInt8.ofNat x.toNat).toArray⟩ := by
  unfold strOfNums
  first | rfl | simp
theorem bx_all (l : List Int) : (bx l (bwI l.length l.length)).map (fun x => UInt8.ofNat x.toNat) = txD l := by
  unfold bx txD bwI bwd
  apply List.ext_getElem?
  intro k
  by_cases hk : k < l.length
  · have h2 : l.length - 1 - k < l.length := by omega
    rw [List.getElem?_reverse (by simpa using hk)]
    simp [hk, List.getElem?_eq_getElem h2, li_ltr]
  · simp [hk]
theorem info_u89 : (Tryd.prog.info? 5).map (fun i => (i.zero, i.size, i.bytes)) = some (some (.int .u8 0), 1, 1) := by kernel_rfl
theorem conv_row {W : World} {B n c : Nat} {A : Option Addr} {xs : List Int} (h : W.ownsRow B 5 1 (.slice A n c) n (xs.map (Value.int .u8))) (hn : 0 < n) (hx : xs.length = n) :
    (convert 33 9 (.slice A n c)).run Tryd.prog W = .ok (.string (strOfNums xs)) W := by
  obtain ⟨b, off, rfl, _, hc⟩ := (Rd.of_own h).2 hn
  exact run_convert_bytes_arg (P := Tryd.prog) W 33 5 Tryd.underlying33 Tryd.underlying5 b off n c xs hx (fun i hi => by
    rw [hc i (by omega)]
    have : i < xs.length := by omega
    simp [this]) 9 Tryd.underlying9
theorem stepIn_app {F : Fence} {n : Nat} {P : Program} (w : World) {ops : Array Oper} {o : Oper} {a : Act} {K : Act → World → Prop} {Q : Exit → Act → World → Prop} {E : Prop}
    (hg : o.guard = none) (s x : Operand) (t : TypeId) (hop : o.op = Op.call { callee := Callee.builtin Builtin.append, args := #[s, x], argTypes := #[t, t] })
    (base : Nat) (e : TypeId) (i : TypeInfo) (z : Value) (size bytes : Nat) (h1 : P.underlying t = some (.slice e)) (h2 : P.info? e = some i) (h3 : i.zero = some z) (h4 : i.size = size) (h5 : i.bytes = bytes) (h6 : z.cells.size = size) (h7 : 0 < size)
    (v : Value) (k : Nat) (xs : List Value) (hs : a.eval s = v) (hown : w.ownsRow base e size v k xs) (ad : Addr) (m c : Nat) (news : List Value) (hx : a.eval x = .slice (some ad) m c) (hn : news.length = m * size)
    (hc : ∀ j u, news[j]? = some u → w.cell? (ad.add j) = some u) (h1c : ∀ u ∈ news, u.oneCell' = true) (b1 : k + m ≤ maxLen) (b2 : (k + m) * bytes ≤ 140737488355328) (b3 : base ≤ w.heap.size)
    (hK : ∀ v' w', w'.ownsRow base e size v' (k + m) (xs ++ news) → w.grownBy w' v.ownBlock → K (a.put o.dst v') w') :
    if Region.wanted o (yielded ops a.tmps) = true then o.wpIn F n P a w K Q else E := by
  rw [if_pos (by simp [Region.wanted, hg])]
  obtain ⟨v', w', hrun, r1, r2, _⟩ := run_append_own (P := P) w base t o.type e i z size bytes h1 h2 h3 h4 h5 h6 h7 v k xs hown ad m c news hn hc h1c b1 b2 b3
  unfold Oper.wpIn
  refine ⟨?_, ?_⟩
  · simp [Oper.about, hop, resolve, Target.leads, Sem.run_pure]
  · rw [Oper.semAt_plain F _ _ (by rw [hop]; intro c hc'; cases hc')]
    simp [execOp, hop, resolve, invoke, builtin, hs, hx, hrun, Result.andThen, Oper.uponIn]
    exact hK v' w' r1 r2
theorem cell_one_at9 (w : World) (a : Value) (t : TypeId) : ∀ j u, [a][j]? = some u → (w.alloc (.cells #[a] t)).cell? ((⟨w.heap.size, 0, none⟩ : Addr).add j) = some u := by
  intro j u hj
  match j, hj with
  | 0, hj => simp at hj; subst hj; rw [show ((⟨w.heap.size, 0, none⟩ : Addr).add 0) = ⟨w.heap.size, 0, none⟩ from rfl, cell_of_row _ _ 0 _ _ (0, 0) (heap_alloc_new w _)]; rfl
theorem row_form9 {w : World} {B k n : Nat} {e : TypeId} {v : Value} {xs : List Value} (h : w.ownsRow B e k v n xs) : ∃ A c, v = .slice A n c := by
  rcases h.2 with ⟨rfl, h0⟩ | ⟨g, cap, cur, rfl, _⟩
  · exact ⟨none, 0, by rw [h0]⟩
  · exact ⟨some _, cap, rfl⟩

set_option maxRecDepth 100000 in
set_option maxHeartbeats 8000000 in
theorem implText_some (B : Nat) (A : Option Addr) (c : Nat) (l : List Int) (w : World) (hB : B ≤ w.heap.size) (hD : isD l = true) (hne : 0 < l.length) (hr : Rd w B 1 A l.length (l.map I)) (hT : LtT w) :
    Calls Tryd.prog 7 #[.slice A l.length c] w fun e w' => e = .returned (.tuple #[.string ⟨(txD l).toArray⟩, .bool true]) ∧ Below w.heap.size w w' := by
  obtain ⟨hl24, hmem⟩ := isD_len hD
  have H := Lib.hid hr
  have HT := Lib.hid hT
  have HM := Lib.hid (show ∀ j, -1 ≤ l.getD j 0 ∧ l.getD j 0 ≤ 1 from fun j => by
    rcases Nat.lt_or_ge j l.length with h | h
    · have := hmem _ (List.getElem_mem h)
      simpa [h] using this
    · simp [h])
  have hAD := areDigits_any B A c l w (by omega) hB hr
  rw [hD] at hAD
  have HA := Lib.hid hAD
  have EX := Lib.hid (bx_all l)
  have i0 : ((l.length : Int) == 0) = false := by simpa using (show ¬ l = [] by intro e; subst e; simp at hne)
  obtain ⟨i0', hi, hz0, hz1, hz2⟩ := info_parts info_u89
  have HI := Lib.hid hi
  have HI0 := Lib.hid hz0
  have HI1 := Lib.hid hz1
  have HI2 := Lib.hid hz2
  clear hr hT hmem hAD hD hi hz0 hz1 hz2
  refine (callsIn_wide (n := 3)).1 ?_
  refine callsIn_of_wp_marks Tryd.func7 rfl trivial ?_ rfl
  simp only [Tryd.ntmps7, List.size_toArray, List.length_cons, List.length_nil, Nat.reduceAdd, Nat.reduceSub, Array.replicate_succ, Array.replicate_zero, List.push_toArray, List.append_toArray, List.nil_append, List.cons_append]
  gi_wp2_with fail
  refine ⟨trivial, ?_⟩
  gi_at_call 14
  refine (callsIn_wide.2 HA.out).mono ?_
  rintro e w' ⟨rfl, hww⟩
  subst w'
  gi_wp2_with fail
  refine ⟨trivial, ?_⟩
  gi_at_call 15
  refine (backward_in Fence.wide _ trivial rfl _ _ _ _).mono ?_
  rintro e w' ⟨rfl, hww⟩
  subst hww
  gi_wp2_with fail
  obtain ⟨w3, hw3⟩ : ∃ w3, (w.alloc (.cells #[.slice none 0 0] 33)).alloc (.cells #[.slice A l.length c] 22) = w3 := ⟨_, rfl⟩
  rw [hw3]
  have hb3 : Below w.heap.size w w3 := by subst hw3; exact ((Below.refl _ _).alloc (Nat.le_refl _) _).alloc (by simp) _
  have z5 : Boxed w3 w.heap.size 33 (.slice none 0 0) := by subst hw3; exact (Boxed.new w _ _).alloc _
  have z7 : w3.heap[w.heap.size + 1]? = some (.cells #[.slice A l.length c] 22 (0, 0)) := by
    subst hw3
    have := heap_alloc_new (w.alloc (.cells #[.slice none 0 0] 33)) (.cells #[.slice A l.length c] 22)
    simpa using this
  have s3 : w3.heap.size = w.heap.size + 2 := by subst hw3; simp
  have HB3 := Lib.hid hb3
  have HR := Lib.hid (show ∀ W', Below w.heap.size w3 W' → Rd W' w.heap.size 1 A l.length (l.map I) from fun W' h => (H.out.below' (hb3.trans h) hB).more hB)
  clear hw3 hb3
  refine wpIn_rangeFunc_ownG (w0 := w3) rfl (by omega) (gf := 23) (lb := #[.pointer (some ⟨w.heap.size + 1, 0, none⟩)]) rfl trivial (enters_of Tryd.func23 (by kernel_rfl) rfl)
    (backI_stops Fence.wide _ trivial rfl (by omega) (w.heap.size + 1) w.heap.size A c l (by omega) w3 (by omega) z7 HR.out) kpB_t (kpB_b (by omega) (by omega)) (Below.refl _ _) (fun _ => rfl)
    (fun pre W => (∃ v, Boxed W w.heap.size 33 v ∧ W.ownsRow w.heap.size 5 1 v (bx l pre).length ((bx l pre).map (Value.int .u8)) ∧ True) ∧
      (Boxed W (w.heap.size + 1) 22 (.slice A l.length c) ∧ Below w.heap.size w W))
    (fun _ _ _ => False)
    (OwnFrom.and (Own.from (holdsRow_own w.heap.size w.heap.size 33 5 1 (fun pre => (bx l pre).length) (fun pre => (bx l pre).map (Value.int .u8)) (fun _ _ => True)) _)
      (OwnFrom.and (Own.from (fun s A B row hs hg hr => blk_own hs hg hr) _) (ownFrom_below (Nat.le_refl _) (by omega))))
    (fun _ _ _ _ _ hs _ _ => hs)
    ⟨⟨_, z5, World.ownsRow_nil _ _ _ _, trivial⟩, z7, HB3.out⟩
    (fun x => { tmps := #[.slice A l.length c, undef, .string ⟨#[]⟩, .bool false, .pointer (some ⟨w.heap.size, 0, none⟩), undef, .int .i64 (l.getD x 0), .slice A l.length c, .bool true, .bool false, .slice A l.length c, .int .i64 (l.length : Int), .bool false, .slice A l.length c, .func (.func 23) #[] #[.pointer (some ⟨w.heap.size + 1, 0, none⟩)], .int .i64 (x : Int), .int .i64 (l.getD x 0), undef, undef, undef, undef, undef, undef, undef, undef, undef], defers := [] }) ?assign ?body ?done ?stop
  case assign =>
    intro l x W K hK
    gi_wp2
    exact hK
  case body =>
    rintro lr pre j W ⟨⟨v, hbx, hrow, _⟩, hbs, hbel⟩ hlen
    have EF := Lib.hid (bx_snoc l pre j)
    have BEL := Lib.hid hbel
    have hs := hbel.size
    have hzl : (bx l pre).length = pre.length := by simp [bx]
    have hd := HM.out j
    obtain ⟨d, hde⟩ : ∃ d, l.getD j 0 = d := ⟨_, rfl⟩
    rw [hde] at EF hd ⊢
    obtain ⟨z, hz⟩ : ∃ z, bx l pre = z := ⟨_, rfl⟩
    rw [hz] at hrow EF hzl
    obtain ⟨L, hL⟩ : ∃ L, z.length = L := ⟨_, rfl⟩
    have hL24 : L ≤ 24 := by omega
    rw [hL] at hrow
    have HL := Lib.hid hL
    obtain ⟨A1, c1, rfl⟩ := row_form9 hrow
    obtain ⟨T0, T1, T2⟩ := HT.out.on hbel
    have BXd := Lib.hid (show Boxed W.drew w.heap.size 33 (.slice A1 L c1) from hbx)
    have ROWd := Lib.hid (show W.drew.ownsRow w.heap.size 5 1 (.slice A1 L c1) L (z.map (Value.int .u8)) from hrow)
    have BS := Lib.hid (show Boxed W.drew (w.heap.size + 1) 22 (.slice A l.length c) from hbs)
    clear hbx hrow hbs hbel hz hL hzl hde
    have hd3 : d = -1 ∨ d = 0 ∨ d = 1 := by omega
    have ew0 : IntKind.i64.wrap 0 = 0 := IntWalk.i64_in _ (by omega)
    have ew1 : IntKind.i64.wrap 1 = 1 := IntWalk.i64_in _ (by omega)
    have ew2 : IntKind.i64.wrap 2 = 2 := IntWalk.i64_in _ (by omega)
    rcases hd3 with rfl | rfl | rfl
    · have EN := Lib.hid (show bx l (pre ++ [j]) = z ++ [45] by rw [EF.out]; rfl)
      have S0 := Lib.hid (show (fun x : World => x.cell? ⟨w.heap.size, 0, none⟩ = some (.slice A1 L c1) ∧ x.cell? ⟨0, 0, none⟩ = some (.int .u8 45)) W.drew from ⟨BXd.out.cell, T0⟩)
      have S1 := Lib.hid (show (fun x : World => x.cell? ⟨w.heap.size, 0, none⟩ = some (.slice A1 L c1) ∧ x.cell? ⟨0, 0, none⟩ = some (.int .u8 45)) (W.drew.alloc (.cells #[.int .u8 45] 5)) from ⟨(Boxed.alloc BXd.out _).cell, cell_kept (show W.drew.cell? ⟨0, 0, none⟩ = _ from T0) _⟩)
      have NX := Lib.hid (show ∀ j u, ([.int .u8 45] : List Value)[j]? = some u → (W.drew.alloc (.cells #[.int .u8 45] 5)).cell? ((⟨W.heap.size, 0, none⟩ : Addr).add j) = some u from cell_one_at9 W.drew _ _)
      clear T0 T1 T2
      gi_wp2
      refine wp_region_J (fun _ => trivial) (fun x : World => x.cell? ⟨w.heap.size, 0, none⟩ = some (.slice A1 L c1) ∧ x.cell? ⟨0, 0, none⟩ = some (.int .u8 45)) [0, 1, 2, 3, 4] [0, 4] (.lp 1 (.lp 2 (.lp 3 (.ls 0 (.ls 4 (.hv 5 (.hv 6 (.hv 7 (.done))))))))) (by kernel_rfl) (by kernel_rfl) ?_
      (repeat (refine J_lp rfl (fun K hK => ?_); go_simp; refine hK _ ?_; clear hK K))
      refine J_ls1 (v := .slice A1 L c1) rfl rfl S0.out (fun x hx => (by obtain ⟨h1, h2⟩ := hx; go_simp)) (fun K hK => ?_)
      (go_simp; refine hK _ ?_; clear hK K)
      refine J_ls1 (v := .int .u8 45) rfl rfl S0.out (fun x hx => (by obtain ⟨h1, h2⟩ := hx; go_simp)) (fun K hK => ?_)
      (go_simp; refine hK _ ?_; clear hK K)
      refine J_hvS rfl (fun K hK => ?_)
      go_simp
      refine hK _ _ S1.out ?_
      clear hK K
      refine J_hv rfl (by kernel_rfl) (fun K hK => ?_)
      refine stepIn_app _ rfl (.tmp 17) (.tmp 22) 33 rfl w.heap.size 5 i0' (.int .u8 0) 1 1 Tryd.underlying33 HI.out HI0.out HI1.out HI2.out rfl (by decide) _ L _ rfl (World.ownsRow.alloc ROWd.out _) ⟨W.heap.size, 0, none⟩ 1 1 [.int .u8 45] rfl rfl NX.out (by simp [Value.oneCell']) (by unfold maxLen; omega) (by omega) (by simp; omega) ?_
      intro v' w1 hown' hgrow
      obtain ⟨g', cap', rfl⟩ := ownsRow_succ hown'
      obtain ⟨hv1, hv2, hr2, hk2, hb2⟩ := BXd.out.appended (by decide) ROWd.out (by simp; omega) (Nat.le_refl _) hown' hgrow
      have hc1 := hv1.cell
      have hf1 := hv1.frozen
      have hs1 : Boxed w1 (w.heap.size + 1) 22 (.slice A l.length c) := (Boxed.alloc BS.out _).kept hgrow (Boxed.not_row BS.out (by decide) ROWd.out)
      have S2 := (set_other (u := .slice (some ⟨g', 0, none⟩) (L + 1) cap') (k := 0) (show w.heap.size + 1 ≠ w.heap.size by omega)).trans hs1
      go_simp
      refine hK _ _ ?_
      clear hK K
      refine J_hv rfl (by kernel_rfl) (fun K hK => ?_)
      go_simp
      refine hK _ _ ?_
      clear hK K
      refine J_done ?_
      generalize hWb : World.setCell w1 _ _ = Wb at hv2 hr2 hk2 hb2 S2 ⊢
      have RR : Wb.ownsRow w.heap.size 5 1 (.slice (some ⟨g', 0, none⟩) (L + 1) cap') (bx l (pre ++ [j])).length ((bx l (pre ++ [j])).map (Value.int .u8)) := by
        rw [EN.out, show (z ++ [(45 : Int)]).length = L + 1 by rw [List.length_append, HL.out]; rfl, List.map_append]
        exact hr2
      have KK := (KeepsOthers.drew W).trans hk2
      have BB : Below w.heap.size W Wb := (Below.refl _ _).drew.trans hb2
      clear hWb hv1 hr2 hk2 hb2 hc1 hf1 hs1 hown' hgrow
      gi_wp2
      first
        | exact ⟨KK.from _, ⟨BB, fun _ => Eq.trans S2 (Eq.symm BS.out)⟩, ⟨_, hv2, RR, trivial⟩, S2, BEL.out.trans BB⟩
        | exact ⟨KK.from _, ⟨BB, fun _ => Eq.trans S2 (Eq.symm BS.out)⟩, ⟨_, hv2, RR⟩, S2, BEL.out.trans BB⟩
    · have EN := Lib.hid (show bx l (pre ++ [j]) = z ++ [48] by rw [EF.out]; rfl)
      have S0 := Lib.hid (show (fun x : World => x.cell? ⟨w.heap.size, 0, none⟩ = some (.slice A1 L c1) ∧ x.cell? ⟨0, 1, none⟩ = some (.int .u8 48)) W.drew from ⟨BXd.out.cell, T1⟩)
      have S1 := Lib.hid (show (fun x : World => x.cell? ⟨w.heap.size, 0, none⟩ = some (.slice A1 L c1) ∧ x.cell? ⟨0, 1, none⟩ = some (.int .u8 48)) (W.drew.alloc (.cells #[.int .u8 48] 5)) from ⟨(Boxed.alloc BXd.out _).cell, cell_kept (show W.drew.cell? ⟨0, 1, none⟩ = _ from T1) _⟩)
      have NX := Lib.hid (show ∀ j u, ([.int .u8 48] : List Value)[j]? = some u → (W.drew.alloc (.cells #[.int .u8 48] 5)).cell? ((⟨W.heap.size, 0, none⟩ : Addr).add j) = some u from cell_one_at9 W.drew _ _)
      clear T0 T1 T2
      gi_wp2
      refine wp_region_J (fun _ => trivial) (fun x : World => x.cell? ⟨w.heap.size, 0, none⟩ = some (.slice A1 L c1) ∧ x.cell? ⟨0, 1, none⟩ = some (.int .u8 48)) [0, 1, 2, 3, 4] [0, 4] (.lp 1 (.lp 2 (.lp 3 (.ls 0 (.ls 4 (.hv 5 (.hv 6 (.hv 7 (.done))))))))) (by kernel_rfl) (by kernel_rfl) ?_
      (repeat (refine J_lp rfl (fun K hK => ?_); go_simp; refine hK _ ?_; clear hK K))
      refine J_ls1 (v := .slice A1 L c1) rfl rfl S0.out (fun x hx => (by obtain ⟨h1, h2⟩ := hx; go_simp)) (fun K hK => ?_)
      (go_simp; refine hK _ ?_; clear hK K)
      refine J_ls1 (v := .int .u8 48) rfl rfl S0.out (fun x hx => (by obtain ⟨h1, h2⟩ := hx; go_simp)) (fun K hK => ?_)
      (go_simp; refine hK _ ?_; clear hK K)
      refine J_hvS rfl (fun K hK => ?_)
      go_simp
      refine hK _ _ S1.out ?_
      clear hK K
      refine J_hv rfl (by kernel_rfl) (fun K hK => ?_)
      refine stepIn_app _ rfl (.tmp 17) (.tmp 22) 33 rfl w.heap.size 5 i0' (.int .u8 0) 1 1 Tryd.underlying33 HI.out HI0.out HI1.out HI2.out rfl (by decide) _ L _ rfl (World.ownsRow.alloc ROWd.out _) ⟨W.heap.size, 0, none⟩ 1 1 [.int .u8 48] rfl rfl NX.out (by simp [Value.oneCell']) (by unfold maxLen; omega) (by omega) (by simp; omega) ?_
      intro v' w1 hown' hgrow
      obtain ⟨g', cap', rfl⟩ := ownsRow_succ hown'
      obtain ⟨hv1, hv2, hr2, hk2, hb2⟩ := BXd.out.appended (by decide) ROWd.out (by simp; omega) (Nat.le_refl _) hown' hgrow
      have hc1 := hv1.cell
      have hf1 := hv1.frozen
      have hs1 : Boxed w1 (w.heap.size + 1) 22 (.slice A l.length c) := (Boxed.alloc BS.out _).kept hgrow (Boxed.not_row BS.out (by decide) ROWd.out)
      have S2 := (set_other (u := .slice (some ⟨g', 0, none⟩) (L + 1) cap') (k := 0) (show w.heap.size + 1 ≠ w.heap.size by omega)).trans hs1
      go_simp
      refine hK _ _ ?_
      clear hK K
      refine J_hv rfl (by kernel_rfl) (fun K hK => ?_)
      go_simp
      refine hK _ _ ?_
      clear hK K
      refine J_done ?_
      generalize hWb : World.setCell w1 _ _ = Wb at hv2 hr2 hk2 hb2 S2 ⊢
      have RR : Wb.ownsRow w.heap.size 5 1 (.slice (some ⟨g', 0, none⟩) (L + 1) cap') (bx l (pre ++ [j])).length ((bx l (pre ++ [j])).map (Value.int .u8)) := by
        rw [EN.out, show (z ++ [(48 : Int)]).length = L + 1 by rw [List.length_append, HL.out]; rfl, List.map_append]
        exact hr2
      have KK := (KeepsOthers.drew W).trans hk2
      have BB : Below w.heap.size W Wb := (Below.refl _ _).drew.trans hb2
      clear hWb hv1 hr2 hk2 hb2 hc1 hf1 hs1 hown' hgrow
      gi_wp2
      first
        | exact ⟨KK.from _, ⟨BB, fun _ => Eq.trans S2 (Eq.symm BS.out)⟩, ⟨_, hv2, RR, trivial⟩, S2, BEL.out.trans BB⟩
        | exact ⟨KK.from _, ⟨BB, fun _ => Eq.trans S2 (Eq.symm BS.out)⟩, ⟨_, hv2, RR⟩, S2, BEL.out.trans BB⟩
    · have EN := Lib.hid (show bx l (pre ++ [j]) = z ++ [43] by rw [EF.out]; rfl)
      have S0 := Lib.hid (show (fun x : World => x.cell? ⟨w.heap.size, 0, none⟩ = some (.slice A1 L c1) ∧ x.cell? ⟨0, 2, none⟩ = some (.int .u8 43)) W.drew from ⟨BXd.out.cell, T2⟩)
      have S1 := Lib.hid (show (fun x : World => x.cell? ⟨w.heap.size, 0, none⟩ = some (.slice A1 L c1) ∧ x.cell? ⟨0, 2, none⟩ = some (.int .u8 43)) (W.drew.alloc (.cells #[.int .u8 43] 5)) from ⟨(Boxed.alloc BXd.out _).cell, cell_kept (show W.drew.cell? ⟨0, 2, none⟩ = _ from T2) _⟩)
      have NX := Lib.hid (show ∀ j u, ([.int .u8 43] : List Value)[j]? = some u → (W.drew.alloc (.cells #[.int .u8 43] 5)).cell? ((⟨W.heap.size, 0, none⟩ : Addr).add j) = some u from cell_one_at9 W.drew _ _)
      clear T0 T1 T2
      gi_wp2
      refine wp_region_J (fun _ => trivial) (fun x : World => x.cell? ⟨w.heap.size, 0, none⟩ = some (.slice A1 L c1) ∧ x.cell? ⟨0, 2, none⟩ = some (.int .u8 43)) [0, 1, 2, 3, 4] [0, 4] (.lp 1 (.lp 2 (.lp 3 (.ls 0 (.ls 4 (.hv 5 (.hv 6 (.hv 7 (.done))))))))) (by kernel_rfl) (by kernel_rfl) ?_
      (repeat (refine J_lp rfl (fun K hK => ?_); go_simp; refine hK _ ?_; clear hK K))
      refine J_ls1 (v := .slice A1 L c1) rfl rfl S0.out (fun x hx => (by obtain ⟨h1, h2⟩ := hx; go_simp)) (fun K hK => ?_)
      (go_simp; refine hK _ ?_; clear hK K)
      refine J_ls1 (v := .int .u8 43) rfl rfl S0.out (fun x hx => (by obtain ⟨h1, h2⟩ := hx; go_simp)) (fun K hK => ?_)
      (go_simp; refine hK _ ?_; clear hK K)
      refine J_hvS rfl (fun K hK => ?_)
      go_simp
      refine hK _ _ S1.out ?_
      clear hK K
      refine J_hv rfl (by kernel_rfl) (fun K hK => ?_)
      refine stepIn_app _ rfl (.tmp 17) (.tmp 22) 33 rfl w.heap.size 5 i0' (.int .u8 0) 1 1 Tryd.underlying33 HI.out HI0.out HI1.out HI2.out rfl (by decide) _ L _ rfl (World.ownsRow.alloc ROWd.out _) ⟨W.heap.size, 0, none⟩ 1 1 [.int .u8 43] rfl rfl NX.out (by simp [Value.oneCell']) (by unfold maxLen; omega) (by omega) (by simp; omega) ?_
      intro v' w1 hown' hgrow
      obtain ⟨g', cap', rfl⟩ := ownsRow_succ hown'
      obtain ⟨hv1, hv2, hr2, hk2, hb2⟩ := BXd.out.appended (by decide) ROWd.out (by simp; omega) (Nat.le_refl _) hown' hgrow
      have hc1 := hv1.cell
      have hf1 := hv1.frozen
      have hs1 : Boxed w1 (w.heap.size + 1) 22 (.slice A l.length c) := (Boxed.alloc BS.out _).kept hgrow (Boxed.not_row BS.out (by decide) ROWd.out)
      have S2 := (set_other (u := .slice (some ⟨g', 0, none⟩) (L + 1) cap') (k := 0) (show w.heap.size + 1 ≠ w.heap.size by omega)).trans hs1
      go_simp
      refine hK _ _ ?_
      clear hK K
      refine J_hv rfl (by kernel_rfl) (fun K hK => ?_)
      go_simp
      refine hK _ _ ?_
      clear hK K
      refine J_done ?_
      generalize hWb : World.setCell w1 _ _ = Wb at hv2 hr2 hk2 hb2 S2 ⊢
      have RR : Wb.ownsRow w.heap.size 5 1 (.slice (some ⟨g', 0, none⟩) (L + 1) cap') (bx l (pre ++ [j])).length ((bx l (pre ++ [j])).map (Value.int .u8)) := by
        rw [EN.out, show (z ++ [(43 : Int)]).length = L + 1 by rw [List.length_append, HL.out]; rfl, List.map_append]
        exact hr2
      have KK := (KeepsOthers.drew W).trans hk2
      have BB : Below w.heap.size W Wb := (Below.refl _ _).drew.trans hb2
      clear hWb hv1 hr2 hk2 hb2 hc1 hf1 hs1 hown' hgrow
      gi_wp2
      first
        | exact ⟨KK.from _, ⟨BB, fun _ => Eq.trans S2 (Eq.symm BS.out)⟩, ⟨_, hv2, RR, trivial⟩, S2, BEL.out.trans BB⟩
        | exact ⟨KK.from _, ⟨BB, fun _ => Eq.trans S2 (Eq.symm BS.out)⟩, ⟨_, hv2, RR⟩, S2, BEL.out.trans BB⟩
  case done =>
    rintro D' ys W hD' rfl ⟨⟨v, hbx, hrow, _⟩, _, hbel⟩ hK
    have hxl : (bx l (bwI l.length l.length)).length = l.length := by unfold bx bwI; rw [List.length_map, bwd_length]
    obtain ⟨xs, hxs⟩ : ∃ xs, bx l (bwI l.length l.length) = xs := ⟨_, rfl⟩
    have EX := Lib.hid (show strOfNums xs = ⟨(txD l).toArray⟩ by rw [strOf, ← hxs, EX.out])
    rw [hxs] at hrow hxl
    rw [hxl] at hrow
    obtain ⟨A', c', rfl⟩ := row_form9 hrow
    have xb := hbx.cell
    have hcv := conv_row hrow hne hxl
    rw [EX.out] at hcv
    have BEL := Lib.hid hbel
    clear hbel hrow hbx hxs hxl
    gi_wp2
    refine ⟨by simp, .inl ⟨_, _, rfl, run_takeDeferred hK, ?_⟩⟩
    refine ⟨.tuple #[.string ⟨(txD l).toArray⟩, .bool true], by simp [results, Tryd.results7, go_sem], rfl, BEL.out.trans (belowK_b (w := w) (Nat.le_refl _) W D' _ _ (by omega) hK rfl rfl)⟩
  case stop =>
    rintro D' c' pre W _ _ h _
    exact h.elim

theorem isD_big {l : List Int} (h : 1000000 < l.length) : isD l = false := by unfold isD; rw [decide_eq_false (by omega)]; rfl
set_option maxHeartbeats 1000000 in
theorem areDigits99 (B : Nat) (A : Option Addr) (c : Nat) (l : List Int) (w : World) (hB : B ≤ w.heap.size) (hr : Rd w B 1 A l.length (l.map I)) :
    Calls Tryd.prog 14 #[.slice A l.length c] w fun e w' => e = .returned (.bool (isD l)) ∧ w = w' := by
  by_cases hbig : 1000000 < l.length
  · have E := Lib.hid (isD_big hbig)
    have G := Lib.hid (show inB (l.length : Int) 0 24 = false by rw [inB_len]; exact decide_eq_false (by omega))
    clear hr
    go_enter Tryd.func14, Tryd.ntmps14
    go_wp2_with (go_at_call 17; refine (isLength_any _ _).mono ?_; rw [G.out]; rintro e w' ⟨rfl, rfl⟩)
    go_ret
    exact ⟨ret_bool (by rw [E.out]), rfl⟩
  · exact areDigits_any B A c l w (by omega) hB hr
set_option maxHeartbeats 1000000 in
theorem implSignedText_any (B : Nat) (A : Option Addr) (c : Nat) (l : List Int) (w : World) (hB : B ≤ w.heap.size) (_hl : l.length ≤ 1048576) (_hcap : l.length ≤ c) (hr : Rd w B 1 A l.length (l.map I)) (hT : LtT w) :
    Calls Tryd.prog 7 #[.slice A l.length c] w fun e w' => e = .returned (.tuple #[.string ⟨(stR l).toArray⟩, .bool (isD l)]) ∧ Below w.heap.size w w' := by
  have HD := areDigits99 B A c l w hB hr
  obtain ⟨g, hg⟩ : ∃ g, isD l = g := ⟨_, rfl⟩
  rw [hg] at HD
  have HD := Lib.hid HD
  cases g with
  | false =>
    have ER := Lib.hid (show stR l = [] by unfold stR; rw [hg]; rfl)
    rw [hg]
    clear hg hr hT
    go_enter Tryd.func7, Tryd.ntmps7
    go_wp2_with (go_at_call 14; refine HD.out.mono ?_; rintro e w' ⟨rfl, rfl⟩)
    go_ret2
    exact ⟨by rw [ER.out]; rfl, Below.refl _ _⟩
  | true =>
    by_cases h0 : l.length = 0
    · have ln : l = [] := List.length_eq_zero_iff.1 h0
      have ER := Lib.hid (show stR l = [61] by unfold stR; rw [hg, ln]; rfl)
      have i0 : ((l.length : Int) == 0) = true := by simp [h0]
      rw [hg]
      clear hg h0 ln hr hT
      go_enter Tryd.func7, Tryd.ntmps7
      go_wp2_with (go_at_call 14; refine HD.out.mono ?_; rintro e w' ⟨rfl, rfl⟩)
      go_ret2
      exact ⟨by rw [ER.out]; rfl, Below.refl _ _⟩
    · have ln : ¬ l = [] := fun e => h0 (by rw [e]; rfl)
      have ER : stR l = txD l := by unfold stR; rw [hg, if_neg ln]; rfl
      rw [hg, ER]
      exact implText_some B A c l w hB hg (by omega) hr hT
end Go.Proofs.YtbohakifjmdoiabDoor
