/- A version in a box, and as a result. -/
import Derived.Test.YtbiapepalkdkdabJoined03
import Derived.Test.YtbiapepalkdkdabJoined07
import Derived.Laws.ResultCell
namespace Go.Proofs.Ytbiapepalkdkdab
open Go.RowKit Go.Maps
set_option linter.unusedVariables false
set_option linter.unusedSimpArgs false

theorem ret_vt4 {fn : Func} {p u : Tmp} {ty : TypeId} (h : fn.results = #[.cell p ty, .tmp u]) (tmps : Array Value) (w : World) (g : Nat) (cs : Array Value) (x : Value)
    (hp : tmps.getD p undef = .pointer (some ⟨g, 0, none⟩)) (hx : tmps.getD u undef = x) (hg : (loadVar ty ⟨g, 0, none⟩).run Try.prog w = .ok (.agg cs) w) :
    (results fn tmps).run Try.prog w = .ok (.tuple #[.agg cs, x]) w := by
  rw [results_cell_tmp h, hp, hx]
  simp [asAddr, hg, Result.andThen]
def vnz : Vn := ⟨0, false, 0, ⟨#[]⟩, []⟩
/-- a call that gives a version and an error -/
def GiveJ (w : World) (x : Vn) (n : Int) (e : Ending) (w' : World) : Prop := ∃ ad cap, e = .returned (.tuple #[vnV (.slice ad x.ps.length cap, x), .int .i64 n]) ∧ PcI w' (.slice ad x.ps.length cap) x.ps ∧ Below w.heap.size w w'
/-- the five cells of a box -/
theorem Bx.may4 {w W : World} {g : Nat} {t : TypeId} {z0 z1 z2 z3 z4 : Value} (h : Bx w g [z0, z1, z2, z3, z4] t W) : (W.cell? ⟨g, 0, none⟩ = some z0 ∧ W.cell? ⟨g, 1, none⟩ = some z1 ∧ W.cell? ⟨g, 2, none⟩ = some z2 ∧ W.cell? ⟨g, 3, none⟩ = some z3 ∧ W.cell? ⟨g, 4, none⟩ = some z4) ∧ (W.frozen? ⟨g, 0, none⟩ = false ∧ W.frozen? ⟨g, 1, none⟩ = false ∧ W.frozen? ⟨g, 2, none⟩ = false ∧ W.frozen? ⟨g, 3, none⟩ = false ∧ W.frozen? ⟨g, 4, none⟩ = false) :=
  ⟨⟨h.row.cellAt rfl, h.row.cellAt rfl, h.row.cellAt rfl, h.row.cellAt rfl, h.row.cellAt rfl⟩, h.row.frozen, h.row.frozen, h.row.frozen, h.row.frozen, h.row.frozen⟩
theorem Bx.set54 {w W : World} {g : Nat} {t : TypeId} {z0 z1 z2 z3 z4 : Value} (h : Bx w g [z0, z1, z2, z3, z4] t W) (hg : w.heap.size ≤ g) (x0 x1 x2 x3 x4 : Value) : Bx w g [x0, x1, x2, x3, x4] t (((((W.setCell ⟨g, 0, none⟩ x0).setCell ⟨g, 1, none⟩ x1).setCell ⟨g, 2, none⟩ x2).setCell ⟨g, 3, none⟩ x3).setCell ⟨g, 4, none⟩ x4) ∧ Keep (· = g) W (((((W.setCell ⟨g, 0, none⟩ x0).setCell ⟨g, 1, none⟩ x1).setCell ⟨g, 2, none⟩ x2).setCell ⟨g, 3, none⟩ x3).setCell ⟨g, 4, none⟩ x4) := by
  have f := five h.row (x0 := x0) (x1 := x1) (x2 := x2) (x3 := x3) (x4 := x4)
  exact ⟨⟨f.1, h.b.trans (keep_below f.2 (fun k hk e => by omega) h.b.size)⟩, f.2⟩
end Go.Proofs.Ytbiapepalkdkdab
