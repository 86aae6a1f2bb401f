/- Joined: Worlds that are alike but for some blocks, and what is new. The walks of names: which texts may be one. -/
import Derived.Test.YtnldjcoajliciaaGreatFM
import Derived.Test.YtnldjcoajliciaaGreatJoined02
namespace Go.Proofs.YtnldjcoajliciaaGreat
open Go.RowKit Go.Maps
set_option linter.unusedVariables false

/-- the worlds are alike but for the blocks of S and what is new -/
structure Keep (S : Nat → Prop) (w w' : World) : Prop where
  os : w'.os = w.os
  tape : w'.tape = w.tape
  output : w'.output = w.output
  size : w.heap.size ≤ w'.heap.size
  block : ∀ k, k < w.heap.size → ¬ S k → w'.heap[k]? = w.heap[k]?
section
variable {S T : Nat → Prop} {a b c w : World}
theorem Keep.refl (S : Nat → Prop) (w : World) : Keep S w w := ⟨rfl, rfl, rfl, Nat.le_refl _, fun _ _ _ => rfl⟩
theorem Keep.trans (h : Keep S a b) (k : Keep S b c) : Keep S a c :=
  ⟨k.os.trans h.os, k.tape.trans h.tape, k.output.trans h.output, Nat.le_trans h.size k.size, fun i hi hg => (k.block i (Nat.lt_of_lt_of_le hi h.size) hg).trans (h.block i hi hg)⟩
theorem Keep.mono (h : Keep S a b) (hs : ∀ k, k < a.heap.size → S k → T k) : Keep T a b := ⟨h.os, h.tape, h.output, h.size, fun k hk hn => h.block k hk (fun hS => hn (hs k hk hS))⟩
/-- behind a first part what is new may be turned as well -/
theorem Keep.then (h : Keep S a b) (k : Keep T b c) (hT : ∀ j, j < a.heap.size → T j → S j) : Keep S a c :=
  ⟨k.os.trans h.os, k.tape.trans h.tape, k.output.trans h.output, Nat.le_trans h.size k.size, fun i hi hg => (k.block i (Nat.lt_of_lt_of_le hi h.size) (fun e => hg (hT i hi e))).trans (h.block i hi hg)⟩
theorem _root_.Go.RowKit.Below.keep (h : Below w.heap.size w a) (S : Nat → Prop) : Keep S w a := ⟨h.os, h.tape, h.output, h.size, fun k hk _ => h.block k hk⟩
theorem keep_below {B : Nat} (h : Keep S a b) (hS : ∀ k, k < B → ¬ S k) (hs : B ≤ a.heap.size) : Below B a b := ⟨h.os, h.tape, h.output, h.size, fun k hk => h.block k (by omega) (hS k hk)⟩
theorem keep_setCell (w : World) (g o : Nat) (u : Value) : Keep (· = g) w (w.setCell ⟨g, o, none⟩ u) := ⟨rfl, rfl, rfl, by simp [World.setCell], fun k _ hg => Below.heap_setCell _ _ _ _ hg⟩
theorem keep_alloc (S : Nat → Prop) (w : World) (o : Obj) : Keep S w (w.alloc o) := (((Below.refl w.heap.size w).alloc (Nat.le_refl _) o)).keep S
theorem keep_drew (S : Nat → Prop) (w : World) : Keep S w w.drew := ⟨rfl, rfl, rfl, Nat.le_refl _, fun _ _ _ => rfl⟩
theorem Keep.cell (h : Keep S a b) {g o : Nat} (hg : g < a.heap.size) (hS : ¬ S g) : b.cell? ⟨g, o, none⟩ = a.cell? ⟨g, o, none⟩ := by simp [World.cell?, h.block g hg hS]
theorem Keep.mapIs (h : Keep S a b) {g : Nat} {L : List (Bs × Value)} (hm : MapIs a g L) (hS : ¬ S g) : MapIs b g L := by
  have hlt := hm.lt
  obtain ⟨es, clock, hb, r⟩ := hm
  exact ⟨es, clock, (h.block g hlt hS).trans hb, r⟩
theorem Keep.mapV (h : Keep S a b) {mo : Option Nat} {L : List (Bs × Value)} (hm : MapV a mo L) (hS : ∀ g, mo = some g → ¬ S g) : MapV b mo L := by
  rcases hm with h0 | ⟨g, rfl, hm⟩
  · exact .inl h0
  · exact .inr ⟨g, rfl, h.mapIs hm (hS g rfl)⟩
end
/-- a row of cells -/
def RowIs (w : World) (g : Nat) (cs : List Value) (t : TypeId) : Prop := w.heap[g]? = some (.cells cs.toArray t (0, 0))
theorem RowIs.cell {w : World} {g : Nat} {cs : List Value} {t : TypeId} (h : RowIs w g cs t) (o : Nat) : w.cell? ⟨g, o, none⟩ = cs[o]? := by rw [cell_of_row _ _ _ _ _ _ h]; simp
theorem RowIs.cellAt {w : World} {g o : Nat} {cs : List Value} {t : TypeId} {v : Value} (h : RowIs w g cs t) (hv : cs[o]? = some v) : w.cell? ⟨g, o, none⟩ = some v := (h.cell o).trans hv
theorem RowIs.frozen {w : World} {g o : Nat} {cs : List Value} {t : TypeId} (h : RowIs w g cs t) : w.frozen? ⟨g, o, none⟩ = false := by unfold World.frozen?; rw [h]; simp
theorem RowIs.lt {w : World} {g : Nat} {cs : List Value} {t : TypeId} (h : RowIs w g cs t) : g < w.heap.size := (Array.getElem?_eq_some_iff.1 h).1
theorem RowIs.set {w : World} {g : Nat} {cs : List Value} {t : TypeId} (h : RowIs w g cs t) (o : Nat) (v : Value) : RowIs (w.setCell ⟨g, o, none⟩ v) g (cs.set o v) t := by
  unfold RowIs; rw [heap_setCell_same _ _ _ _ _ _ h, List.setIfInBounds_toArray]
theorem RowIs.keep {S : Nat → Prop} {w w' : World} {g : Nat} {cs : List Value} {t : TypeId} (h : RowIs w g cs t) (k : Keep S w w') (hS : ¬ S g) : RowIs w' g cs t := (k.block g h.lt hS).trans h
end Go.Proofs.YtnldjcoajliciaaGreat
namespace Go.Proofs.YtnldjcoajliciaaGreat
open Go.RowKit
set_option linter.unusedVariables false
set_option linter.unusedSimpArgs false

end Go.Proofs.YtnldjcoajliciaaGreat
