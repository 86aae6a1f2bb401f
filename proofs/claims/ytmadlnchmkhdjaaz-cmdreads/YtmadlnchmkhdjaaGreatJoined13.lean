/- Joined: The latest version, and a version by its number: the program. The small run of layer 13: awake answers true. -/
import Derived.Test.YtmadlnchmkhdjaaGreatJoined12
import Derived.Laws.ResultCell
import Derived.Test.YtmadlnchmkhdjaaGreatJoined03
namespace Go.Proofs.YtmadlnchmkhdjaaGreat
open Go.RowKit Go.Maps
set_option linter.unusedVariables false
set_option linter.unusedSimpArgs false

theorem ret_vt {fn : Func} {p u : Tmp} {ty : TypeId} (h : fn.results = #[.cell p ty, .tmp u]) (tmps : Array Value) (w : World) (g : Nat) (cs : Array Value) (x : Value)
    (hp : tmps.getD p undef = .pointer (some ⟨g, 0, none⟩)) (hx : tmps.getD u undef = x) (hg : (loadVar ty ⟨g, 0, none⟩).run Tryz.prog w = .ok (.agg cs) w) :
    (results fn tmps).run Tryz.prog w = .ok (.tuple #[.agg cs, x]) w := by
  rw [results_cell_tmp h, hp, hx]
  simp [asAddr, hg, Result.andThen]
def vn0 : Vn := ⟨0, false, 0, ⟨#[]⟩, []⟩
def latE (l : List Vn) : Int := if isCh l = true then (match l with | [] => 4 | v :: _ => if v.ma = true then 130 else 0) else 1
def latV (l : List Vn) : Vn := if isCh l = true then (match l with | [] => vn0 | v :: _ => if v.ma = true then vn0 else v) else vn0
def fdV (l : List Vn) (n : Int) : Vn := match plO l n with | some j => l.getD j vn0 | none => vn0
/-- a call that gives a version and an error -/
def GiveO (w : World) (x : Vn) (n : Int) (e : Ending) (w' : World) : Prop := ∃ ad cap, e = .returned (.tuple #[vnV (.slice ad x.ps.length cap, x), .int .i64 n]) ∧ PcI w' (.slice ad x.ps.length cap) x.ps ∧ Below w.heap.size w w'
/-- the five cells of a box -/
theorem Bx.may {w W : World} {g : Nat} {t : TypeId} {z0 z1 z2 z3 z4 : Value} (h : Bx w g [z0, z1, z2, z3, z4] t W) : (W.cell? ⟨g, 0, none⟩ = some z0 ∧ W.cell? ⟨g, 1, none⟩ = some z1 ∧ W.cell? ⟨g, 2, none⟩ = some z2 ∧ W.cell? ⟨g, 3, none⟩ = some z3 ∧ W.cell? ⟨g, 4, none⟩ = some z4) ∧ (W.frozen? ⟨g, 0, none⟩ = false ∧ W.frozen? ⟨g, 1, none⟩ = false ∧ W.frozen? ⟨g, 2, none⟩ = false ∧ W.frozen? ⟨g, 3, none⟩ = false ∧ W.frozen? ⟨g, 4, none⟩ = false) :=
  ⟨⟨h.row.cellAt rfl, h.row.cellAt rfl, h.row.cellAt rfl, h.row.cellAt rfl, h.row.cellAt rfl⟩, h.row.frozen, h.row.frozen, h.row.frozen, h.row.frozen, h.row.frozen⟩
theorem Bx.set5 {w W : World} {g : Nat} {t : TypeId} {z0 z1 z2 z3 z4 : Value} (h : Bx w g [z0, z1, z2, z3, z4] t W) (hg : w.heap.size ≤ g) (x0 x1 x2 x3 x4 : Value) : Bx w g [x0, x1, x2, x3, x4] t (((((W.setCell ⟨g, 0, none⟩ x0).setCell ⟨g, 1, none⟩ x1).setCell ⟨g, 2, none⟩ x2).setCell ⟨g, 3, none⟩ x3).setCell ⟨g, 4, none⟩ x4) ∧ Keep (· = g) W (((((W.setCell ⟨g, 0, none⟩ x0).setCell ⟨g, 1, none⟩ x1).setCell ⟨g, 2, none⟩ x2).setCell ⟨g, 3, none⟩ x3).setCell ⟨g, 4, none⟩ x4) := by
  have f := five h.row (x0 := x0) (x1 := x1) (x2 := x2) (x3 := x3) (x4 := x4)
  exact ⟨⟨f.1, h.b.trans (keep_below f.2 (fun k hk e => by omega) h.b.size)⟩, f.2⟩
end Go.Proofs.YtmadlnchmkhdjaaGreat
namespace Go.Proofs.YtmadlnchmkhdjaaGreat
open Go.RowKit Go.Maps
set_option linter.unusedVariables false
set_option linter.unusedSimpArgs false

def V3 : Vn := ⟨3, false, 2, ZS, [⟨ZS, 2⟩]⟩
def M5 : Vn := ⟨5, true, 0, ⟨#[]⟩, []⟩
theorem pcs_one (W : World) : PcI (W.alloc (.cells #[.string ZS, .int .i64 2] 107)) (.slice (some ⟨W.heap.size, 0, none⟩) 1 1) [⟨ZS, 2⟩] := RowC.own (own_made W [.string ZS, .int .i64 2] 107 2 1 0 (Nat.zero_le _) rfl (by omega))
set_option maxRecDepth 100000 in
theorem aw_pure : putE [] V3 = 0 ∧ putL [] V3 = [V3] ∧ putE [V3] M5 = 0 ∧ putL [V3] M5 = [M5, V3] ∧ latE [M5, V3] = 130 ∧ plE [M5, V3] 5 = 0 ∧ drL [M5, V3] 5 = [V3] ∧ latE [V3] = 0 ∧ latV [V3] = V3 ∧ latV [M5, V3] = vn0 := by
  have c0 : isCh [] = true := by decide +kernel
  have c1 : isCh [V3] = true := by decide +kernel
  have c2 : isCh [M5, V3] = true := by decide +kernel
  have k3 : vnOk V3 = true := by decide +kernel
  have k5 : vnOk M5 = true := by decide +kernel
  have e1 : putE [] V3 = 0 := by unfold putE; rw [if_pos ⟨c0, k3⟩]; rfl
  have e2 : putE [V3] M5 = 0 := by unfold putE; rw [if_pos ⟨c1, k5⟩]; rfl
  have e3 : plO [M5, V3] 5 = some 0 := by unfold plO; rw [if_pos c2]; rfl
  refine ⟨e1, by unfold putL; rw [if_pos e1], e2, by unfold putL; rw [if_pos e2], by unfold latE; rw [if_pos c2]; rfl, by unfold plE; rw [if_pos c2]; rfl, by unfold drL; rw [e3]; rfl, by unfold latE; rw [if_pos c1]; rfl, by unfold latV; rw [if_pos c1]; rfl, by unfold latV; rw [if_pos c2]; rfl⟩
end Go.Proofs.YtmadlnchmkhdjaaGreat
