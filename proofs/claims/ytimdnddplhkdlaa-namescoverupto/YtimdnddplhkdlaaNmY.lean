/- Each key is found, and each item is of a key. -/
import Derived.Test.YtimdnddplhkdlaaNmX
namespace Go.Proofs.Ytimdnddplhkdlaa
open Go.RowKit
set_option linter.unusedVariables false

/-- an item that a key is found by -/
def hitB (k : Bs) (x : It) : Bool := (!x.2 && x.1 == k) || (x.2 && x.1.isPrefixOf k)
/-- a key that an item is of -/
def isB (x : It) (k : Bs) : Bool := k == x.1 || (x.2 && x.1.isPrefixOf k)
/-- a key that need not be found -/
def outB (p k : Bs) : Bool := !p.isPrefixOf k || k == []
theorem itK_hit {p d k : Bs} (hp : p.isPrefixOf k = true) : hitB k (itK p d k) = true ∧ isB (itK p d k) k = true := by
  have h1 := (itK_pre (d := d) hp).2
  unfold hitB isB
  cases hf : (itK p d k).2 with
  | true => rw [h1]; simp
  | false =>
    have : (itK p d k).1 = k := by
      unfold itK at hf ⊢
      split
      · rename_i h; rw [if_pos h] at hf; cases hf
      · rfl
    rw [this]; simp
theorem itK_ne {p d k : Bs} (hp : p.isPrefixOf k = true) (hk : k ≠ []) : (itK p d k).1 ≠ [] := by
  unfold itK
  split
  · rename_i h
    have hl := endD_le hp h
    have hd := (of_decide_eq_true h).1
    intro e
    have := congrArg List.length e
    simp only [List.length_take, List.length_nil] at this
    have h2 : 0 < d.length := List.length_pos_iff.2 hd
    unfold endD at hl this
    omega
  · exact hk
theorem cover1 {p d : Bs} {ks : List Bs} {S : List It} (hI : Its p d ks (fun n => bytesBefore [] n) S) {k : Bs} (hk : k ∈ ks) : (outB p k || S.any (hitB k)) = true := by
  unfold outB
  cases hp : p.isPrefixOf k with
  | false => rfl
  | true =>
    by_cases h0 : k = []
    · subst h0; simp
    · have hm : itK p d k ∈ S := (hI.mem _).2 ⟨⟨k, hk, by unfold ofK; rw [hp]; rfl⟩, before_nil (itK_ne hp h0)⟩
      have : S.any (hitB k) = true := List.any_eq_true.2 ⟨_, hm, (itK_hit hp).1⟩
      rw [this]; simp
theorem cover2 {p d : Bs} {ks : List Bs} {f : Bs → Bool} {S : List It} (hI : Its p d ks f S) {x : It} (hx : x ∈ S) : ks.any (isB x) = true ∧ p.isPrefixOf x.1 = true ∧ x.2 = flagOf p d x.1 := by
  obtain ⟨⟨k, hk, e⟩, _⟩ := (hI.mem x).1 hx
  unfold ofK at e
  split at e
  · rename_i hp
    injection e with e
    subst e
    exact ⟨List.any_eq_true.2 ⟨k, hk, (itK_hit hp).2⟩, (itK_pre hp).1, itK_flag hp⟩
  · cases e
theorem any_take {α : Type} (f : α → Bool) (l : List α) (k : Nat) (hk : k < l.length) : (l.take (k + 1)).any f = ((l.take k).any f || f l[k]) := by
  rw [List.take_succ_eq_append_getElem hk, List.any_append]
  simp
end Go.Proofs.Ytimdnddplhkdlaa
