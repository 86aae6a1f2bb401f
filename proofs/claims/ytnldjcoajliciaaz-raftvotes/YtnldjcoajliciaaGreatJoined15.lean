/- Joined: The walk of a change's being done to files. The walk of a change's being done to files: what is appended. The walk of a change's being done to files: what is written anew, taken away, cut. The walk of a change's being done to files: what is cut, what is moved. A change's being done to files, whatever it is; and its first bytes alone. The walks of a disk's small questions. -/
import Derived.Test.YtnldjcoajliciaaGreatJoined14
import Derived.Deep.RegionHeld3
import Derived.IntWalk
import Derived.BigRegion
import Derived.Test.YtnldjcoajliciaaGreatJoined03
import Derived.Test.YtnldjcoajliciaaGreatJoined01
namespace Go.Proofs.YtnldjcoajliciaaGreat
open Go.RowKit Go.Maps
set_option linter.unusedVariables false

/-- what is left where a change was done -/
def Applied (w : World) (c : Nat → Nat) (mc pb po : Nat) (cs : List Value) (t : TypeId) (mo : Option Nat) (L : List (Bs × FV)) (ch : Chg) (w' : World) : Prop :=
  ∃ mo' L' c', RowIs w' pb ((cs.set po (.map mo')).set (po + 1) (.int .i64 (tot (txts L')))) t ∧ FilIs w' c' mc mo' L' ∧ txts L' = doC (txts L) ch ∧ (∀ k, k < w.heap.size → c' k = c k) ∧
    Keep (fun k => k = pb ∨ mo = some k ∨ c k = 3) w w' ∧ (∀ y U, BSl w 0 y U → (∀ g, y.ownBlock = some g → c g = 3) → Safe L y → BSl w' 0 y U ∧ Safe L' y) ∧ (∀ n, n ≠ ch.name → n ≠ ch.to → kget L' n = kget L n) ∧
    ∀ x ∈ L', ∀ g, x.2.1.ownBlock = some g → w.heap.size ≤ g ∨ ∃ x0 ∈ L, x0.2.1.ownBlock = some g ∧ (x0.1 = x.1 ∨ x0.1 = ch.name)
/-- what a walk through 'apply' is given -/
structure ApIn (w : World) (c : Nat → Nat) (mc pb po : Nat) (cs : List Value) (t : TypeId) (mo : Option Nat) (L : List (Bs × FV)) : Prop where
  row : RowIs w pb cs t
  h0 : cs[po]? = some (.map mo)
  h1 : cs[po + 1]? = some (.int .i64 (tot (txts L)))
  fil : FilIs w c mc mo L
  mc3 : mc ≠ 3
  pb3 : c pb ≠ 3
  pbm : c pb ≠ mc
  len : L.length < maxLen
end Go.Proofs.YtnldjcoajliciaaGreat
namespace Go.Proofs.YtnldjcoajliciaaGreat
open Go.RowKit Go.Maps
set_option linter.unusedVariables false

end Go.Proofs.YtnldjcoajliciaaGreat
namespace Go.Proofs.YtnldjcoajliciaaGreat
open Go.RowKit Go.Maps
set_option linter.unusedVariables false

end Go.Proofs.YtnldjcoajliciaaGreat
namespace Go.Proofs.YtnldjcoajliciaaGreat
open Go.RowKit Go.Maps
set_option linter.unusedVariables false

theorem set_ext (cs : List Value) (po : Nat) (a b c d : Value) : (((cs.set po a).set (po + 1) b).set po c).set (po + 1) d = (cs.set po c).set (po + 1) d := by
  apply List.ext_getElem?
  intro i
  simp only [List.getElem?_set, List.length_set]
  by_cases h1 : po = i
  · subst h1; simp
  · by_cases h2 : po + 1 = i <;> simp [h1, h2]
end Go.Proofs.YtnldjcoajliciaaGreat
namespace Go.Proofs.YtnldjcoajliciaaGreat
open Go.RowKit Go.Maps
set_option linter.unusedVariables false

/-- what is left where files came to be A' -/
def AppliedTo (w : World) (c : Nat → Nat) (mc pb po : Nat) (cs : List Value) (t : TypeId) (A' : List (Bs × Bs)) (w' : World) : Prop :=
  ∃ mo' L' c', RowIs w' pb ((cs.set po (.map mo')).set (po + 1) (.int .i64 (tot A'))) t ∧ FilIs w' c' mc mo' L' ∧ txts L' = A' ∧ (∀ k, k < w.heap.size → c' k = c k) ∧ Keep (fun k => k = pb ∨ c k = mc ∨ c k = 3) w w'
theorem Applied.less {w w' : World} {c : Nat → Nat} {mc pb po : Nat} {cs : List Value} {t : TypeId} {mo : Option Nat} {L : List (Bs × FV)} {ch : Chg} (hm : ∀ b, mo = some b → c b = mc) (h : Applied w c mc pb po cs t mo L ch w') : AppliedTo w c mc pb po cs t (doC (txts L) ch) w' := by
  obtain ⟨mo', L', c', hr, hf, ht, hc, hk, _, _, _⟩ := h
  exact ⟨mo', L', c', by rw [← ht]; exact hr, hf, ht, hc, hk.mono fun k _ e => e.imp id (fun e => e.imp (hm k) id)⟩
theorem set_same {cs : List Value} {po : Nat} {v : Value} (h : cs[po]? = some v) : cs.set po v = cs := by
  apply List.ext_getElem?
  intro i
  by_cases hi : po = i
  · subst hi; rw [List.getElem?_set_self (List.getElem?_eq_some_iff.1 h).1, h]
  · rw [List.getElem?_set_ne hi]
theorem ApIn.none {w w' : World} {c : Nat → Nat} {mc pb po : Nat} {cs : List Value} {t : TypeId} {mo : Option Nat} {L : List (Bs × FV)} (h : ApIn w c mc pb po cs t mo L) (k : Keep (fun _ => False) w w') : AppliedTo w c mc pb po cs t (txts L) w' :=
  ⟨mo, L, c, by rw [set_same h.h0, set_same h.h1]; exact h.row.keep k (fun h => h), h.fil.keep k (fun _ _ => rfl) (fun _ h => h.elim), rfl, fun _ _ => rfl, k.mono fun _ _ h => h.elim⟩
theorem AppliedTo.from {w w1 w' : World} {c : Nat → Nat} {mc pb po : Nat} {cs : List Value} {t : TypeId} {A' : List (Bs × Bs)} (k : Keep (fun _ => False) w w1) (h : AppliedTo w1 c mc pb po cs t A' w') : AppliedTo w c mc pb po cs t A' w' := by
  obtain ⟨mo', L', c', hr, hf, ht, hc, hk⟩ := h
  exact ⟨mo', L', c', hr, hf, ht, fun j hj => hc j (Nat.lt_of_lt_of_le hj k.size), (k.mono fun _ _ h => h.elim).trans hk⟩

end Go.Proofs.YtnldjcoajliciaaGreat
namespace Go.Proofs.YtnldjcoajliciaaGreat
open Go.RowKit Go.Maps
set_option linter.unusedVariables false
set_option linter.unusedSimpArgs false

/-- a disk that is nil, or one whose mark says whether it is down -/
def DownIs (w : World) (dp : Value) (dn : Bool) : Prop := (dp = .pointer none ∧ dn = true) ∨ ∃ p, dp = .pointer (some ⟨p, 0, none⟩) ∧ w.cell? ⟨p, 9, none⟩ = some (.bool dn)

end Go.Proofs.YtnldjcoajliciaaGreat
