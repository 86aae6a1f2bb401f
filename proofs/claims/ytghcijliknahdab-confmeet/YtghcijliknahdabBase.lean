/- What several walks share: the element type's row, a slice of bytes as a string, what stays behind a call. -/
import Derived.Test.YtghcijliknahdabProg
import Derived.Test.YtghcijliknahdabPut
import Derived.WalkSpells
import Derived.WalkLawsBesides
namespace Go.Proofs.Ytghcijliknahdab
open Go.RowKit
set_option linter.unusedVariables false

theorem info8 : (Try.prog.info? 5).map (fun i => (i.zero, i.size, i.bytes)) = some (some (.int .u8 0), 1, 1) := by kernel_rfl

theorem bcell {W w1 : World} (hb : Below W.heap.size W w1) : ∀ b o, b < W.heap.size → w1.cell? ⟨b, o, none⟩ = W.cell? ⟨b, o, none⟩ :=
  fun b o h => hb.cell (p := ⟨b, o, none⟩) h

theorem own_below {base : Nat} {w wr w1 : World} {v : Value} {n : Nat} {xs : List Value} (hbase : base ≤ wr.heap.size) (hown : wr.ownsRow base 5 1 v n xs) (hB : Below base w wr) (hg : wr.grownBy w1 v.ownBlock) : Below base w w1 := by
  refine hB.grown hg hbase ?_
  intro k hk
  rcases hown.2 with ⟨h, _⟩ | ⟨g, cap, cur, h, hgb, _⟩
  · subst h; simp [Value.ownBlock] at hk
  · subst h; simp [Value.ownBlock] at hk; omega

theorem own_assoc {base : Nat} {w : World} {v : Value} {n : Nat} {xs ys zs : List Value} (h : w.ownsRow base 5 1 v n (xs ++ ys ++ zs)) : w.ownsRow base 5 1 v n (xs ++ (ys ++ zs)) := by
  rw [← List.append_assoc]; exact h

end Go.Proofs.Ytghcijliknahdab
