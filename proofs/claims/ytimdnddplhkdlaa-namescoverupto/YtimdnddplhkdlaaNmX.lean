/- Pages of items: what stands behind the last one told. -/
import Derived.Test.YtimdnddplhkdlaaNmM
namespace Go.Proofs.Ytimdnddplhkdlaa
open Go.RowKit
set_option linter.unusedVariables false

/-- the name behind which the next page begins -/
def aft (A : List It) (m : Nat) : Bs := if m = 0 then [] else (A.getD (m - 1) ([], false)).1
theorem before_nil {n : Bs} (h : n ≠ []) : bytesBefore [] n = true := by
  cases n with
  | nil => exact absurd rfl h
  | cons _ _ => rfl
theorem not_before {a b : Bs} (h : bytesBefore a b = true) : bytesBefore b a = false := by
  cases h2 : bytesBefore b a with
  | false => rfl
  | true => have := WideShapes.bytes_trans _ _ _ h h2; rw [WideAt.bytes_irrefl] at this; cases this
theorem page_drop {A : List It} (hs : A.Pairwise ItLt) (hn : ∀ x ∈ A, x.1 ≠ []) (m : Nat) (hm : m ≤ A.length) : A.filter (fun x => bytesBefore (aft A m) x.1) = A.drop m := by
  have e : A.filter (fun x => bytesBefore (aft A m) x.1) = (A.take m).filter (fun x => bytesBefore (aft A m) x.1) ++ (A.drop m).filter (fun x => bytesBefore (aft A m) x.1) := by
    rw [← List.filter_append, List.take_append_drop]
  rw [e]
  have h1 : (A.take m).filter (fun x => bytesBefore (aft A m) x.1) = [] := by
    rw [List.filter_eq_nil_iff]
    intro x hx
    by_cases h0 : m = 0
    · subst h0; simp at hx
    · obtain ⟨i, hi, rfl⟩ := List.mem_iff_getElem.1 hx
      rw [List.length_take] at hi
      rw [List.getElem_take]
      unfold aft
      rw [if_neg h0, List.getD_eq_getElem?_getD, List.getElem?_eq_getElem (by omega), Option.getD_some]
      by_cases h2 : i = m - 1
      · subst h2; rw [WideAt.bytes_irrefl]; decide
      · have := List.pairwise_iff_getElem.1 hs i (m - 1) (by omega) (by omega) (by omega)
        rw [not_before this]; decide
  have h2 : (A.drop m).filter (fun x => bytesBefore (aft A m) x.1) = A.drop m := by
    rw [List.filter_eq_self]
    intro x hx
    by_cases h0 : m = 0
    · unfold aft
      rw [if_pos h0]
      exact before_nil (hn x (List.mem_of_mem_drop hx))
    · obtain ⟨i, hi, rfl⟩ := List.mem_iff_getElem.1 hx
      rw [List.length_drop] at hi
      rw [List.getElem_drop]
      unfold aft
      rw [if_neg h0, List.getD_eq_getElem?_getD, List.getElem?_eq_getElem (by omega), Option.getD_some]
      exact List.pairwise_iff_getElem.1 hs (m - 1) (m + i) (by omega) (by omega) (by omega)
  rw [h1, h2, List.nil_append]
theorem page_last {A : List It} {m n : Nat} (hn : 1 ≤ n) (h : m + n < A.length) : ((A.drop m).take n)[n - 1]? = some (A.getD (m + n - 1) ([], false)) ∧ aft A (m + n) = (A.getD (m + n - 1) ([], false)).1 := by
  constructor
  · rw [List.getElem?_take_of_lt (by omega), List.getElem?_drop, show m + (n - 1) = m + n - 1 by omega, List.getD_eq_getElem?_getD, List.getElem?_eq_getElem (by omega)]
    rfl
  · unfold aft
    rw [if_neg (by omega)]
/-- how many a page has -/
theorem page_n (x : Int) : ∃ n : Nat, 1 ≤ n ∧ n ≤ 5 ∧ wrap64 (x.tmod 5 + 5) = x.tmod 5 + 5 ∧ wrap64 (1 + (x.tmod 5 + 5).tmod 5) = (n : Int) ∧ 1 + (x.tmod 5 + 5).tmod 5 = (n : Int) := by
  have h1 : x.tmod 5 < 5 := Int.tmod_lt_of_pos x (by omega)
  have h2 : -5 < x.tmod 5 := by
    have := Int.tmod_lt_of_pos (-x) (b := 5) (by omega)
    rw [Int.neg_tmod] at this
    omega
  have h3 : 0 ≤ (x.tmod 5 + 5).tmod 5 := Int.tmod_nonneg _ (by omega)
  have h4 := Int.tmod_lt_of_pos (x.tmod 5 + 5) (b := 5) (by omega)
  refine ⟨(1 + (x.tmod 5 + 5).tmod 5).toNat, by omega, by omega, ?_, ?_, by omega⟩
  · unfold wrap64; omega
  · unfold wrap64; omega
end Go.Proofs.Ytimdnddplhkdlaa
