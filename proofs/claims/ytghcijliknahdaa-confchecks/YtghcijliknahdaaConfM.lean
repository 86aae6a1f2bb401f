/- Configurations: what is reckoned with them, on plain lists. -/
import Derived.Test.YtghcijliknahdaaIntM
namespace Go.Proofs.Ytghcijliknahdaa
open Go.RowKit Go.Maps
set_option linter.unusedVariables false
set_option linter.unusedSimpArgs false

/-- is a number in a list? -/
def hasI (n : Int) : List Int → Bool
  | [] => false
  | x :: r => (x == n) || hasI n r
theorem hasI_at {n : Int} {l : List Int} {k : Nat} (hk : k < l.length) : hasI n (l.drop k) = ((l[k] == n) || hasI n (l.drop (k + 1))) := by
  rw [List.drop_eq_getElem_cons hk]; rfl
theorem hasI_iff {n : Int} {l : List Int} : hasI n l = true ↔ n ∈ l := by
  induction l with
  | nil => simp [hasI]
  | cons x r ih => simp [hasI, ih]; constructor <;> (rintro (h | h) <;> simp [h])
/-- how many of a list are in another one -/
def cmn (o : List Int) : List Int → Nat
  | [] => 0
  | x :: r => (if hasI x o = true then 1 else 0) + cmn o r
theorem cmn_at {o l : List Int} {k : Nat} (hk : k < l.length) : cmn o (l.drop k) = (if hasI l[k] o = true then 1 else 0) + cmn o (l.drop (k + 1)) := by
  rw [List.drop_eq_getElem_cons hk]; rfl
theorem cmn_le (o l : List Int) : cmn o l ≤ l.length := by
  induction l with
  | nil => simp [cmn]
  | cons x r ih => simp only [cmn, List.length_cons]; split <;> omega
def isNd (n : Int) : Bool := decide (0 ≤ n) && decide (n < 7)
def chkC (l : List Int) : Int := if areM l = true then 0 else 70
def majC (l : List Int) : Nat := if areM l = true then l.length / 2 + 1 else 0
def engC (l who : List Int) : Bool := areM l && decide (l.length / 2 + 1 ≤ cmn who l)
theorem engC_two (l who : List Int) : engC l who = (areM l && decide (l.length < 2 * cmn who l)) := by
  unfold engC
  congr 1
  by_cases h : l.length / 2 + 1 ≤ cmn who l
  · rw [decide_eq_true h, decide_eq_true (by omega)]
  · rw [decide_eq_false h, decide_eq_false (by omega)]
/-- the configurations of nodes from 7 - k on, and none -/
def subsC : Nat → List (List Int)
  | 0 => [[]]
  | k + 1 => subsC k ++ (subsC k).map ((6 - (k : Int)) :: ·)
theorem rises_sub : ∀ (k : Nat) (a : Int) (l : List Int), 6 - (k : Int) ≤ a → rises a l = true → l ∈ subsC k
  | 0, a, [], _, _ => by simp [subsC]
  | 0, a, x :: r, ha, h => by simp [rises] at h; omega
  | k + 1, a, [], _, _ => List.mem_append_left _ (rises_sub k 6 [] (by omega) rfl)
  | k + 1, a, x :: r, ha, h => by
    simp [rises] at h
    by_cases hx : x = 6 - (k : Int)
    · subst hx
      exact List.mem_append_right _ (List.mem_map.2 ⟨r, rises_sub k _ r (by omega) h.2, rfl⟩)
    · exact List.mem_append_left _ (rises_sub k (6 - (k : Int)) (x :: r) (by omega) (by simp [rises]; exact ⟨⟨by omega, h.1.2⟩, h.2⟩))
theorem areM_sub {l : List Int} (h : areM l = true) : l ∈ subsC 7 := by
  simp [areM] at h
  exact rises_sub 7 (-1) l (by omega) h.1
theorem areM_bd {l : List Int} (h : areM l = true) : ∀ x ∈ l, 0 ≤ x ∧ x < 7 := by
  simp [areM] at h
  exact rises_bd h.1 (by omega)
/-- the nodes from n on -/
def nodesF : Nat → Int → List Int
  | 0, _ => []
  | k + 1, n => n :: nodesF k (n + 1)
/-- with a node more, in order -/
def addL (l : List Int) (node : Int) : List Int := (nodesF 7 0).filter fun n => (n == node) || hasI n l
def dropL (l : List Int) (node : Int) : List Int := l.filter fun x => !(x == node)
def nearC (a b : List Int) : Bool := areM a && areM b && (if b.length < a.length then decide (a.length = b.length + 1) && decide (cmn a b = b.length) else decide (b.length = a.length + 1) && decide (cmn b a = a.length))
/-- how many nodes are in the one and not in the other -/
def moreC (a b : List Int) : Nat := ((nodesF 7 0).filter fun n => hasI n a && !hasI n b).length
def nearR (a b : List Int) : Bool := areM a && areM b && decide (moreC a b + moreC b a = 1)
set_option maxRecDepth 1000000 in
set_option maxHeartbeats 4000000 in
theorem near_all : ((subsC 7).all fun a => (subsC 7).all fun b => nearC a b == nearR a b) = true := by decide +kernel
theorem near_eq (a b : List Int) : nearC a b = nearR a b := by
  by_cases ha : areM a = true
  · by_cases hb : areM b = true
    · have h := near_all
      rw [List.all_eq_true] at h
      have h1 := h a (areM_sub ha)
      rw [List.all_eq_true] at h1
      exact beq_iff_eq.1 (h1 b (areM_sub hb))
    · simp [nearC, nearR, hb]
  · simp [nearC, nearR, ha]
end Go.Proofs.Ytghcijliknahdaa
