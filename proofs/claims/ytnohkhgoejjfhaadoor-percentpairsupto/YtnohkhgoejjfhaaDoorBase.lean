/- What several walks share: the element type's row, a slice of bytes as a string, what stays behind a call. -/
import Derived.Test.YtnohkhgoejjfhaaDoorProg
import Derived.Test.YtnohkhgoejjfhaaDoorPut
import Derived.WalkSpells
import Derived.WalkLawsBesides
namespace Go.Proofs.YtnohkhgoejjfhaaDoor
open Go.RowKit
set_option linter.unusedVariables false

theorem info8 : (Tryd.prog.info? 5).map (fun i => (i.zero, i.size, i.bytes)) = some (some (.int .u8 0), 1, 1) := by kernel_rfl

/-- 'string(b)' of a slice that the call owns -/
theorem convert_owned {w : World} {base : Nat} {v : Value} {n : Nat} {l : List UInt8} (h : w.ownsRow base 5 1 v n (bs l)) (hl : l ≠ []) :
    (convert 66 9 v).run Tryd.prog w = .ok (.string ⟨l.toArray⟩) w := by
  obtain ⟨h1, h2⟩ := h
  rw [bs_len] at h1
  rcases h2 with ⟨rfl, rfl⟩ | ⟨g, cap, cur, rfl, hg, hh, hn, hm, hs, ht⟩
  · exact absurd (List.length_eq_zero_iff.1 (by omega)) hl
  · have hn' : n = l.length := by omega
    subst hn'
    refine run_convert_bytes_back w 66 9 5 _ cap l Tryd.underlying66 Tryd.underlying5 Tryd.underlying9 ?_
    intro j hj
    have : (bs l)[j]? = some (.int .u8 (l[j].toNat : Int)) := by simp [bs, hj]
    rw [← ht, List.getElem?_take_of_lt (by omega)] at this
    rw [Addr.add_lit]
    simp [World.cell?, hh]
    simpa using this

theorem bcell {W w1 : World} (hb : Below W.heap.size W w1) : ∀ b o, b < W.heap.size → w1.cell? ⟨b, o, none⟩ = W.cell? ⟨b, o, none⟩ :=
  fun b o h => hb.cell (p := ⟨b, o, none⟩) h

theorem own_below {base : Nat} {w wr w1 : World} {v : Value} {n : Nat} {xs : List Value} (hbase : base ≤ wr.heap.size) (hown : wr.ownsRow base 5 1 v n xs) (hB : Below base w wr) (hg : wr.grownBy w1 v.ownBlock) : Below base w w1 := by
  refine hB.grown hg hbase ?_
  intro k hk
  rcases hown.2 with ⟨h, _⟩ | ⟨g, cap, cur, h, hgb, _⟩
  · subst h; simp [Value.ownBlock] at hk
  · subst h; simp [Value.ownBlock] at hk; omega

theorem own_assoc {base : Nat} {w : World} {v : Value} {n : Nat} {xs ys zs : List Value} (h : w.ownsRow base 5 1 v n (xs ++ ys ++ zs)) : w.ownsRow base 5 1 v n (xs ++ (ys ++ zs)) := by
  rw [← List.append_assoc]; exact h

end Go.Proofs.YtnohkhgoejjfhaaDoor
