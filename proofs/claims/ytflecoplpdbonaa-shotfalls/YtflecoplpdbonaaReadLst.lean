/- The walk of the reading of a list: it comes to 'lstAt'; the texts lie in a slice that the call owns. -/
import Derived.Test.YtflecoplpdbonaaJoined05
import Derived.Test.YtflecoplpdbonaaListM
namespace Go.Proofs.Ytflecoplpdbonaa
open Go.RowKit
set_option linter.unusedVariables false

theorem info9 : (Try.prog.info? 9).map (fun i => (i.zero, i.size, i.bytes)) = some (some (.string ⟨#[]⟩), 1, 16) := by kernel_rfl

theorem ret_lst {v : Value} {L : Lst} {i e : Int} (h2 : i = L.to) (h3 : e = L.e) :
    Ending.returned (.tuple #[v, .int .i64 i, .int .i64 e]) = .returned (.tuple #[v, .int .i64 L.to, .int .i64 L.e]) := by rw [h2, h3]

theorem rel_lst {base j : Nat} {w wr w1 : World} {v v' : Value} {ts : List ByteArray} {x : ByteArray} (hbase : base ≤ wr.heap.size)
    (hown : wr.ownsRow base 9 1 v j (ss ts)) (hB : Below base w wr)
    (hown' : w1.ownsRow base 9 1 v' (j + 1) (ss ts ++ [.string x])) (hg : (wr.alloc (.cells #[.string x] 9)).grownBy w1 v.ownBlock) :
    w1.ownsRow base 9 1 v' (j + 1) (ss (ts ++ [x])) ∧ Below base w w1 := by
  refine ⟨?_, ?_⟩
  · have e : ss (ts ++ [x]) = ss ts ++ [.string x] := by simp [ss]
    rw [e]; exact hown'
  · refine ((hB.alloc hbase _).grown hg (by simp; omega) ?_)
    intro k hk
    rcases hown.2 with ⟨h, _⟩ | ⟨g, cap, cur, h, hgb, _⟩
    · subst h; simp [Value.ownBlock] at hk
    · subst h; simp [Value.ownBlock] at hk; omega

end Go.Proofs.Ytflecoplpdbonaa
