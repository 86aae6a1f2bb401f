/- A box of the call's own. -/
import Derived.Test.YtnohkhgoejjfhaaDoorRowI
namespace Go.Proofs.YtnohkhgoejjfhaaDoor
open Go.RowKit Go.Maps
set_option linter.unusedVariables false
set_option linter.unusedSimpArgs false

/-- a box of the call's own, and what lies below -/
structure Bx (w : World) (g : Nat) (cs : List Value) (t : TypeId) (W : World) : Prop where
  row : RowIs W g cs t
  b : Below w.heap.size w W
theorem Bx.next {w W W' : World} {g : Nat} {cs : List Value} {t : TypeId} (h : Bx w g cs t W) (hb : Below W.heap.size W W') : Bx w g cs t W' :=
  ⟨h.row.keep (hb.keep (fun _ => False)) (fun h => h), below_on h.b hb⟩
theorem Bx.drew {w W : World} {g : Nat} {cs : List Value} {t : TypeId} (h : Bx w g cs t W) : Bx w g cs t W.drew := ⟨h.row, h.b.drew⟩
theorem Bx.al {w W : World} {g : Nat} {cs : List Value} {t : TypeId} (h : Bx w g cs t W) (o : Obj) : Bx w g cs t (W.alloc o) := h.next ((Below.refl _ _).alloc (Nat.le_refl _) o)
theorem Bx.made {w W : World} (h : Below w.heap.size w W) (cs : List Value) (t : TypeId) : Bx w W.heap.size cs t (W.alloc (.cells cs.toArray t)) := ⟨srow W cs t, below_al h _⟩
theorem Bx.put1 {w W : World} {g : Nat} {cs : List Value} {t : TypeId} (h : Bx w g cs t W) (hg : w.heap.size ≤ g) (i : Nat) (x : Value) : Bx w g (cs.set i x) t (W.setCell ⟨g, i, none⟩ x) ∧ Keep (· = g) W (W.setCell ⟨g, i, none⟩ x) := by
  have kS := keep_setCell W g i x
  exact ⟨⟨h.row.set i x, h.b.trans (keep_below kS (fun k hk e => by omega) h.b.size)⟩, kS⟩
theorem Bx.drewN {w W : World} {g : Nat} {cs : List Value} {t : TypeId} (h : Bx w g cs t W) (n : Nat) : Bx w g cs t (W.drewN n) := ⟨h.row, below_drewN h.b n⟩
end Go.Proofs.YtnohkhgoejjfhaaDoor
