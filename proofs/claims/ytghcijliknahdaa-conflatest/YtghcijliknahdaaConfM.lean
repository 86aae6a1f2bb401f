/- Configurations: what is reckoned with them, on plain lists. -/
import Derived.Test.YtghcijliknahdaaIntM
namespace Go.Proofs.Ytghcijliknahdaa
open Go.RowKit Go.Maps
set_option linter.unusedVariables false
set_option linter.unusedSimpArgs false

/-- is a number in a list? -/
def hasI (n : Int) : List Int → Bool
  | [] => false
  | x :: r => (x == n) || hasI n r
theorem hasI_at {n : Int} {l : List Int} {k : Nat} (hk : k < l.length) : hasI n (l.drop k) = ((l[k] == n) || hasI n (l.drop (k + 1))) := by
  rw [List.drop_eq_getElem_cons hk]; rfl
theorem hasI_iff {n : Int} {l : List Int} : hasI n l = true ↔ n ∈ l := by
  induction l with
  | nil => simp [hasI]
  | cons x r ih => simp [hasI, ih]; constructor <;> (rintro (h | h) <;> simp [h])
/-- how many of a list are in another one -/
def cmn (o : List Int) : List Int → Nat
  | [] => 0
  | x :: r => (if hasI x o = true then 1 else 0) + cmn o r
theorem cmn_at {o l : List Int} {k : Nat} (hk : k < l.length) : cmn o (l.drop k) = (if hasI l[k] o = true then 1 else 0) + cmn o (l.drop (k + 1)) := by
  rw [List.drop_eq_getElem_cons hk]; rfl
theorem cmn_le (o l : List Int) : cmn o l ≤ l.length := by
  induction l with
  | nil => simp [cmn]
  | cons x r ih => simp only [cmn, List.length_cons]; split <;> omega
def isNd (n : Int) : Bool := decide (0 ≤ n) && decide (n < 7)
def chkC (l : List Int) : Int := if areM l = true then 0 else 70
def majC (l : List Int) : Nat := if areM l = true then l.length / 2 + 1 else 0
def engC (l who : List Int) : Bool := areM l && decide (l.length / 2 + 1 ≤ cmn who l)
theorem engC_two (l who : List Int) : engC l who = (areM l && decide (l.length < 2 * cmn who l)) := by
  unfold engC
  congr 1
  by_cases h : l.length / 2 + 1 ≤ cmn who l
  · rw [decide_eq_true h, decide_eq_true (by omega)]
  · rw [decide_eq_false h, decide_eq_false (by omega)]
/-- the configurations of nodes from 7 - k on, and none -/
def subsC : Nat → List (List Int)
  | 0 => [[]]
  | k + 1 => subsC k ++ (subsC k).map ((6 - (k : Int)) :: ·)
theorem rises_sub : ∀ (k : Nat) (a : Int) (l : List Int), 6 - (k : Int) ≤ a → rises a l = true → l ∈ subsC k
  | 0, a, [], _, _ => by simp [subsC]
  | 0, a, x :: r, ha, h => by simp [rises] at h; omega
  | k + 1, a, [], _, _ => List.mem_append_left _ (rises_sub k 6 [] (by omega) rfl)
  | k + 1, a, x :: r, ha, h => by
    simp [rises] at h
    by_cases hx : x = 6 - (k : Int)
    · subst hx
      exact List.mem_append_right _ (List.mem_map.2 ⟨r, rises_sub k _ r (by omega) h.2, rfl⟩)
    · exact List.mem_append_left _ (rises_sub k (6 - (k : Int)) (x :: r) (by omega) (by simp [rises]; exact ⟨⟨by omega, h.1.2⟩, h.2⟩))
theorem areM_sub {l : List Int} (h : areM l = true) : l ∈ subsC 7 := by
  simp [areM] at h
  exact rises_sub 7 (-1) l (by omega) h.1
theorem areM_bd {l : List Int} (h : areM l = true) : ∀ x ∈ l, 0 ≤ x ∧ x < 7 := by
  simp [areM] at h
  exact rises_bd h.1 (by omega)
/-- the nodes from n on -/
def nodesF : Nat → Int → List Int
  | 0, _ => []
  | k + 1, n => n :: nodesF k (n + 1)
/-- with a node more, in order -/
def addL (l : List Int) (node : Int) : List Int := (nodesF 7 0).filter fun n => (n == node) || hasI n l
def dropL (l : List Int) (node : Int) : List Int := l.filter fun x => !(x == node)
def nearC (a b : List Int) : Bool := areM a && areM b && (if b.length < a.length then decide (a.length = b.length + 1) && decide (cmn a b = b.length) else decide (b.length = a.length + 1) && decide (cmn b a = a.length))
/-- how many of a list are so -/
def cntF (p : Int → Bool) : List Int → Nat
  | [] => 0
  | x :: r => (if p x = true then 1 else 0) + cntF p r
/-- how many nodes are in the one and not in the other -/
def moreC (a b : List Int) : Nat := cntF (fun n => hasI n a && !hasI n b) (nodesF 7 0)
def nearR (a b : List Int) : Bool := areM a && areM b && decide (moreC a b + moreC b a = 1)
theorem nds_at : ∀ k : Nat, k < 7 → (nodesF 7 0).drop k = (k : Int) :: (nodesF 7 0).drop (k + 1) := by decide
def addE (l : List Int) (n : Int) : Int := if areM l = true then (if isNd n = true then (if hasI n l = true then 71 else 0) else 1) else 70
def addV (l : List Int) (n : Int) : List Int := if areM l = true then (if isNd n = true then (if hasI n l = true then [] else addL l n) else []) else []
def dropE (l : List Int) (n : Int) : Int := if areM l = true then (if hasI n l = true then (if l.length = 1 then 1 else 0) else 4) else 70
def dropV (l : List Int) (n : Int) : List Int := if areM l = true then (if hasI n l = true then (if l.length = 1 then [] else dropL l n) else []) else []
theorem dropL_at {n : Int} {l : List Int} {k : Nat} (hk : k < l.length) : dropL (l.drop k) n = (if (l[k] == n) = true then [] else [l[k]]) ++ dropL (l.drop (k + 1)) n := by
  rw [List.drop_eq_getElem_cons hk]
  unfold dropL
  rw [List.filter_cons]
  cases (l[k] == n) <;> rfl
theorem addL_at (l : List Int) (n : Int) (k : Nat) (hk : k < 7) : ((nodesF 7 0).drop k).filter (fun x => (x == n) || hasI x l) = (if (((k : Int) == n) || hasI (k : Int) l) = true then [(k : Int)] else []) ++ ((nodesF 7 0).drop (k + 1)).filter (fun x => (x == n) || hasI x l) := by
  rw [nds_at k hk, List.filter_cons]
  split <;> rfl
theorem cntF_at (p : Int → Bool) (k : Nat) (hk : k < 7) : cntF p ((nodesF 7 0).drop k) = (if p (k : Int) = true then 1 else 0) + cntF p ((nodesF 7 0).drop (k + 1)) := by
  rw [nds_at k hk]; rfl
theorem cntF_le (p : Int → Bool) (l : List Int) : cntF p l ≤ l.length := by
  induction l with
  | nil => simp [cntF]
  | cons x r ih => simp only [cntF, List.length_cons]; split <;> omega
end Go.Proofs.Ytghcijliknahdaa
