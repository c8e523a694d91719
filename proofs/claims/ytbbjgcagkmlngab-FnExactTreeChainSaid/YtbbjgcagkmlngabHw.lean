/- The power tree as data: the program's and the model's. -/
import Derived.Test.YtbbjgcagkmlngabHa
import Derived.Test.YtbbjgcagkmlngabQt
namespace Go.Proofs.Ytbbjgcagkmlngab

/- The program's: all ways up to 400, one after the other. -/
def addW (p : List Nat) (T : List (List Nat)) (a : Nat) : List (List Nat) := if lastN p + a ≤ 400 ∧ T.all (fun q => !(lastN q == lastN p + a)) = true then T ++ [p ++ [lastN p + a]] else T
def procW (T : List (List Nat)) (i : Nat) : List (List Nat) := (T.getD i []).foldl (addW (T.getD i [])) T
def procJ (T : List (List Nat)) (i j : Nat) : List (List Nat) := ((T.getD i []).take j).foldl (addW (T.getD i [])) T
def runW : Nat → Nat → List (List Nat) → List (List Nat)
  | 0, _, T => T
  | f + 1, i, T => if i < T.length then runW f (i + 1) (procW T i) else T
def treeT : List (List Nat) := runW 400 0 [[1]]
theorem addW_pre (p : List Nat) (T : List (List Nat)) (a : Nat) : T <+: addW p T a := by
  unfold addW
  split
  · exact List.prefix_append _ _
  · exact List.prefix_refl _
theorem foldW_pre (p : List Nat) : ∀ (l : List Nat) (T : List (List Nat)), T <+: l.foldl (addW p) T := by
  intro l
  induction l with
  | nil => intro T; exact List.prefix_refl _
  | cons a l ih => intro T; exact (addW_pre p T a).trans (ih _)
theorem runW_pre : ∀ f i (T : List (List Nat)), T <+: runW f i T := by
  intro f
  induction f with
  | zero => intro i T; exact List.prefix_refl _
  | succ f ih =>
    intro i T
    unfold runW
    split
    · exact (foldW_pre _ _ T).trans (ih (i + 1) _)
    · exact List.prefix_refl _
theorem procJ_pre (T : List (List Nat)) (i j : Nat) : procJ T i j <+: procW T i := by
  unfold procJ procW
  have e : (T.getD i []) = (T.getD i []).take j ++ (T.getD i []).drop j := (List.take_append_drop _ _).symm
  have h : (T.getD i []).foldl (addW (T.getD i [])) T = ((T.getD i []).drop j).foldl (addW (T.getD i [])) (((T.getD i []).take j).foldl (addW (T.getD i [])) T) := by
    rw [← List.foldl_append, List.take_append_drop]
  rw [h]
  exact foldW_pre _ _ _
theorem procJ_succ (T : List (List Nat)) (i : Nat) {j : Nat} (h : j < (T.getD i []).length) : procJ T i (j + 1) = addW (T.getD i []) (procJ T i j) ((T.getD i []).getD j 0) := by
  unfold procJ
  rw [List.take_succ_eq_append_getElem h, List.foldl_append]
  have : (T.getD i [])[j] = (T.getD i []).getD j 0 := by rw [List.getD_eq_getElem?_getD (l := T.getD i []), List.getElem?_eq_getElem h]; rfl
  rw [this]
  rfl
theorem procJ_end (T : List (List Nat)) (i : Nat) : procJ T i (T.getD i []).length = procW T i := by
  unfold procJ procW
  rw [List.take_of_length_le (Nat.le_refl _)]
theorem runW_step {f i : Nat} {T : List (List Nat)} (h : i < T.length) : runW (f + 1) i T = runW f (i + 1) (procW T i) := if_pos h
theorem runW_end {f i : Nat} {T : List (List Nat)} (h : ¬ i < T.length) : runW f i T = T := by
  cases f with
  | zero => rfl
  | succ f => exact if_neg h

/- The model's: level by level. -/
def grA (p : List Nat) (st : List (List Nat) × List Int) (a : Nat) : List (List Nat) × List Int := if st.2.contains ((lastN p + a : Nat) : Int) then st else (st.1 ++ [p ++ [lastN p + a]], putI st.2 ((lastN p + a : Nat) : Int))
def grP (st : List (List Nat) × List Int) (p : List Nat) : List (List Nat) × List Int := p.foldl (grA p) st
def growD (st : List (List Nat) × List Int) : List (List Nat) × List Int := st.1.foldl grP ([], st.2)
def grK : Nat → List (List Nat) × List Int
  | 0 => ([[1]], [1])
  | k + 1 => growD (grK k)

/-- Some rounds of it, each of which has a way to go on from. -/
def stepsC : Nat → Nat → List (List Nat) → Option (List (List Nat))
  | 0, _, T => some T
  | k + 1, i, T => if i < T.length then stepsC k (i + 1) (procW T i) else none
theorem stepsC_run : ∀ (k f i : Nat) (T T' : List (List Nat)), stepsC k i T = some T' → runW (f + k) i T = runW f (i + k) T' := by
  intro k
  induction k with
  | zero =>
    intro f i T T' h
    have e : T = T' := by injection h
    subst e
    rfl
  | succ k ih =>
    intro f i T T' h
    unfold stepsC at h
    split at h
    · rename_i hlt
      rw [show f + (k + 1) = (f + k) + 1 by omega, runW_step hlt, ih f (i + 1) _ _ h]
      rw [show i + 1 + k = i + (k + 1) by omega]
    · cases h
def treeOk (T : List (List Nat)) : Bool := decide (T.length ≤ 400) && T.all fun p => !p.isEmpty && decide (p.length ≤ 40) && p.all fun a => decide (1 ≤ a) && decide (a ≤ 400)
def levOk (k : Nat) (st : List (List Nat) × List Int) (T : List (List Nat)) : Bool := decide (st.1.length ≤ 500) && decide (st.2.length ≤ 500) && (st.1.all fun p => (p.length == k + 1) && p.all fun a => decide (1 ≤ a) && decide (a ≤ 1024)) && decide (st.1.map lastN = (T.filter fun p => p.length == k + 1).map lastN)
def levsOk (T : List (List Nat)) : Nat → Nat → (List (List Nat) × List Int) → Bool
  | 0, _, _ => true
  | f + 1, k, st => levOk k st T && levsOk T f (k + 1) (growD st)
end Go.Proofs.Ytbbjgcagkmlngab
