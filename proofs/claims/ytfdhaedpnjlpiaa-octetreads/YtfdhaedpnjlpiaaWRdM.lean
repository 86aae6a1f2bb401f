/- What the law OctetReads holds of its input and of its worlds. -/
import Derived.Test.YtfdhaedpnjlpiaaRdRefB
import Derived.Test.YtfdhaedpnjlpiaaAwake1
import Derived.Deep.RegionHeld3
import Derived.Deep.CutBlock
namespace Go.Proofs.Ytfdhaedpnjlpiaa
open Go.RowKit
set_option linter.unusedVariables false

/-- a slice of pairs of two numbers -/
def Acts (w : World) (v : Value) (n : Nat) (K M : Nat → Int) : Prop :=
  ∃ ad cap, v = .slice ad n cap ∧ n ≤ maxLen ∧ (n = 0 ∨ ∃ b off, ad = some ⟨b, off, none⟩ ∧ b < w.heap.size ∧ ∀ j, j < n →
    w.cell? ⟨b, off + j * 2, none⟩ = some (.int .i64 (K j)) ∧ w.cell? ⟨b, off + j * 2 + 1, none⟩ = some (.int .i64 (M j)) ∧ (-9223372036854775808 ≤ M j ∧ M j ≤ 9223372036854775807))

theorem RdAt.alike {w w' : World} {g : Nat} {s : ByteArray} {a e : Int} (h : RdAt w g s a e) (hh : w'.heap[g]? = w.heap[g]?) : RdAt w' g s a e := by
  have hc := fun o => World.cell?_of_block (w := w) (w' := w') (a := ⟨g, o, none⟩) hh
  have hf := fun o => World.frozen?_of_block (w := w) (w' := w') (a := ⟨g, o, none⟩) hh
  obtain ⟨h0, h1, h2, h3, h4⟩ := h
  exact ⟨(hc 0).trans h0, (hc 1).trans h1, (hc 2).trans h2, (hf 1).trans h3, (hf 2).trans h4⟩
theorem Box.alike {w w' : World} {b : Nat} {x y z : Value} (h : Box w b x y z) (hh : w'.heap[b]? = w.heap[b]?) : Box w' b x y z := by
  have hc := fun o => World.cell?_of_block (w := w) (w' := w') (a := ⟨b, o, none⟩) hh
  have hf := fun o => World.frozen?_of_block (w := w) (w' := w') (a := ⟨b, o, none⟩) hh
  obtain ⟨⟨h0, h1, h2⟩, h3, h4, h5⟩ := h
  exact ⟨⟨(hc 0).trans h0, (hc 1).trans h1, (hc 2).trans h2⟩, (hf 0).trans h3, (hf 1).trans h4, (hf 2).trans h5⟩
theorem Box.lt {w : World} {b : Nat} {x y z : Value} (h : Box w b x y z) : b < w.heap.size := World.block_lt_of_cell? w _ h.1.1
/-- a value is stored over the one that lies there -/
def put3 (w : World) (b : Nat) (x y z : Value) : World := ((w.setCell ⟨b, 0, none⟩ x).setCell ⟨b, 1, none⟩ y).setCell ⟨b, 2, none⟩ z
theorem put3_block (w : World) (b : Nat) (x y z : Value) (k : Nat) (h : k ≠ b) : (put3 w b x y z).heap[k]? = w.heap[k]? := by
  unfold put3
  rw [Below.heap_setCell _ _ _ _ h, Below.heap_setCell _ _ _ _ h, Below.heap_setCell _ _ _ _ h]
theorem Box.put3 {w : World} {b : Nat} {x y z : Value} (h : Box w b x y z) (x' y' z' : Value) : Box (put3 w b x' y' z') b x' y' z' := by
  obtain ⟨⟨h0, h1, h2⟩, h3, h4, h5⟩ := h
  unfold Go.Proofs.Ytfdhaedpnjlpiaa.put3
  refine ⟨⟨?_, ?_, ?_⟩, by simp only [World.frozen?_setCell]; exact h3, by simp only [World.frozen?_setCell]; exact h4, by simp only [World.frozen?_setCell]; exact h5⟩
  · rw [World.cell?_setCell_other _ _ _ _ (by simp), World.cell?_setCell_other _ _ _ _ (by simp)]; exact World.cell?_setCell_same _ _ _ h0
  · rw [World.cell?_setCell_other _ _ _ _ (by simp)]; exact World.cell?_setCell_same _ _ _ ((World.cell?_setCell_other _ _ _ _ (by simp)).trans h1)
  · exact World.cell?_setCell_same _ _ _ ((World.cell?_setCell_other _ _ _ _ (by simp)).trans ((World.cell?_setCell_other _ _ _ _ (by simp)).trans h2))
theorem Box.set2 {w : World} {b : Nat} {x y z : Value} (h : Box w b x y z) (z' : Value) : Box (w.setCell ⟨b, 2, none⟩ z') b x y z' := by
  obtain ⟨⟨h0, h1, h2⟩, h3, h4, h5⟩ := h
  refine ⟨⟨?_, ?_, ?_⟩, by simp only [World.frozen?_setCell]; exact h3, by simp only [World.frozen?_setCell]; exact h4, by simp only [World.frozen?_setCell]; exact h5⟩
  · rw [World.cell?_setCell_other _ _ _ _ (by simp)]; exact h0
  · rw [World.cell?_setCell_other _ _ _ _ (by simp)]; exact h1
  · exact World.cell?_setCell_same _ _ _ h2
theorem put3_below {w0 w : World} {b B : Nat} (h : Below B w0 w) (hb : B ≤ b) (x y z : Value) : Below B w0 (put3 w b x y z) :=
  ((h.setCell (p := ⟨b, 0, none⟩) hb x).setCell (p := ⟨b, 1, none⟩) hb y).setCell (p := ⟨b, 2, none⟩) hb z

/-- what holds at a round's head: the reader and its model say the same -/
structure LSt (w0 : World) (g bm : Nat) (s : ByteArray) (a e : Int) (W : World) : Prop where
  rd : RdAt W g s a e
  m : Box W bm (.string s) (.int .i64 a) (.int .i64 e)
  bel : Below w0.heap.size w0 W
theorem LSt.keeps {w0 W W' : World} {g bm : Nat} {s : ByteArray} {a e : Int} (h : LSt w0 g bm s a e W) (hB : Below W.heap.size W W') : LSt w0 g bm s a e W' :=
  ⟨h.rd.keeps hB, h.m.keeps hB, h.bel.trans (hB.mono h.bel.size)⟩
/-- behind the switch: the model's next value lies in block bk -/
structure MSt (w0 : World) (g bm bk : Nat) (s : ByteArray) (a e a' e' : Int) (W : World) : Prop where
  rd : RdAt W g s a' e'
  m : Box W bm (.string s) (.int .i64 a) (.int .i64 e)
  k : Box W bk (.string s) (.int .i64 a') (.int .i64 e')
  bel : Below w0.heap.size w0 W
theorem wrap_nat (m : Int) : ∃ q : Nat, IntKind.u64.wrap m = (q : Int) := by
  refine ⟨(IntKind.u64.wrap m).toNat, (Int.toNat_of_nonneg ?_).symm⟩
  simp [IntKind.wrap, IntKind.signed, IntKind.bits]
  try omega
/-- ahead of the switch: the copy of the model's value lies in block bk -/
structure KSt (w0 : World) (g bm bk : Nat) (s : ByteArray) (a e : Int) (W : World) : Prop where
  rd : RdAt W g s a e
  m : Box W bm (.string s) (.int .i64 a) (.int .i64 e)
  k : Box W bk (.string s) (.int .i64 a) (.int .i64 e)
  bel : Below w0.heap.size w0 W
theorem KSt.keeps {w0 W W' : World} {g bm bk : Nat} {s : ByteArray} {a e : Int} (h : KSt w0 g bm bk s a e W) (hB : Below W.heap.size W W') : KSt w0 g bm bk s a e W' :=
  ⟨h.rd.keeps hB, h.m.keeps hB, h.k.keeps hB, h.bel.trans (hB.mono h.bel.size)⟩
/-- .. with the cells that the walk reads -/
def KS (w0 : World) (g bm bk : Nat) (s : ByteArray) (a e : Int) (b o : Nat) (m : Int) (W : World) : Prop :=
  W.cell? ⟨bm, 0, none⟩ = some (.string s) ∧ W.cell? ⟨bm, 1, none⟩ = some (.int .i64 a) ∧ W.cell? ⟨bm, 2, none⟩ = some (.int .i64 e) ∧ W.cell? ⟨b, o, none⟩ = some (.int .i64 m) ∧ KSt w0 g bm bk s a e W
theorem KSt.ks {w0 W : World} {g bm bk : Nat} {s : ByteArray} {a e : Int} (h : KSt w0 g bm bk s a e W) {b o : Nat} {m : Int} (hb : b < w0.heap.size) (hm : w0.cell? ⟨b, o, none⟩ = some (.int .i64 m)) : KS w0 g bm bk s a e b o m W :=
  ⟨h.m.1.1, h.m.1.2.1, h.m.1.2.2, (h.bel.cell (p := ⟨b, o, none⟩) hb).trans hm, h⟩
theorem KS.keeps {w0 W W' : World} {g bm bk : Nat} {s : ByteArray} {a e : Int} {b o : Nat} {m : Int} (h : KS w0 g bm bk s a e b o m W) (hB : Below W.heap.size W W') : KS w0 g bm bk s a e b o m W' := by
  have hlt := World.block_lt_of_cell? W _ h.2.2.2.1
  exact ⟨(h.2.2.2.2.keeps hB).m.1.1, (h.2.2.2.2.keeps hB).m.1.2.1, (h.2.2.2.2.keeps hB).m.1.2.2, (hB.cell (p := ⟨b, o, none⟩) hlt).trans h.2.2.2.1, h.2.2.2.2.keeps hB⟩
/-- a value is written into a block of its own -/
theorem KS.put {w0 W : World} {g bm bk : Nat} {s : ByteArray} {a e : Int} {b o : Nat} {m : Int} (h : KS w0 g bm bk s a e b o m W) {c : Nat} (hg : w0.heap.size ≤ g) (hgm : g < bm) (hmk : bm < bk) (hc : bk < c) (hb : b < w0.heap.size) (x y z : Value) : KS w0 g bm bk s a e b o m (put3 W c x y z) := by
  have h5 := h.2.2.2.2
  have hk : KSt w0 g bm bk s a e (put3 W c x y z) := ⟨h5.rd.alike (put3_block _ _ _ _ _ _ (by omega)), h5.m.alike (put3_block _ _ _ _ _ _ (by omega)), h5.k.alike (put3_block _ _ _ _ _ _ (by omega)), put3_below h5.bel (by omega) _ _ _⟩
  exact ⟨hk.m.1.1, hk.m.1.2.1, hk.m.1.2.2, (World.cell?_of_block (w := W) (a := ⟨b, o, none⟩) (put3_block _ _ _ _ _ _ (by show b ≠ c; omega))).trans h.2.2.2.1, hk⟩
/-- the model's next value is written over its copy -/
structure TSt (w0 : World) (g bm bk : Nat) (s : ByteArray) (a e a' e' : Int) (W : World) : Prop where
  rd : RdAt W g s a e
  m : Box W bm (.string s) (.int .i64 a) (.int .i64 e)
  k : Box W bk (.string s) (.int .i64 a') (.int .i64 e')
  bel : Below w0.heap.size w0 W
theorem KSt.take {w0 W : World} {g bm bk : Nat} {s : ByteArray} {a e : Int} (h : KSt w0 g bm bk s a e W) (hg : w0.heap.size ≤ g) (hgm : g < bm) (hmk : bm < bk) (a' e' : Int) : TSt w0 g bm bk s a e a' e' (put3 W bk (.string s) (.int .i64 a') (.int .i64 e')) :=
  ⟨h.rd.alike (put3_block _ _ _ _ _ _ (by omega)), h.m.alike (put3_block _ _ _ _ _ _ (by omega)), h.k.put3 _ _ _, put3_below h.bel (by omega) _ _ _⟩
theorem TSt.keeps {w0 W W' : World} {g bm bk : Nat} {s : ByteArray} {a e a' e' : Int} (h : TSt w0 g bm bk s a e a' e' W) (hB : Below W.heap.size W W') : TSt w0 g bm bk s a e a' e' W' :=
  ⟨h.rd.keeps hB, h.m.keeps hB, h.k.keeps hB, h.bel.trans (hB.mono h.bel.size)⟩
theorem TSt.read {w0 W W' : World} {g bm bk : Nat} {s : ByteArray} {a e a' e' : Int} (h : TSt w0 g bm bk s a e a' e' W) (hg : w0.heap.size ≤ g) (hgm : g < bm) (hmk : bm < bk) (hr : RdAt W' g s a' e') (ho : Only g W W') : MSt w0 g bm bk s a e a' e' W' :=
  ⟨hr, h.m.alike (ho.block _ h.m.lt (by omega)), h.k.alike (ho.block _ h.k.lt (by omega)), h.bel.trans (ho.below hg h.bel.size)⟩
end Go.Proofs.Ytfdhaedpnjlpiaa
