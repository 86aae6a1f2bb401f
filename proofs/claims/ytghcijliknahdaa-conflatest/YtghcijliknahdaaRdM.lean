/- A reader: what it holds in memory, and what its calls come to. -/
import Derived.Test.YtghcijliknahdaaReadTxt
namespace Go.Proofs.Ytghcijliknahdaa
open Go.RowKit
set_option linter.unusedVariables false

/-- a reader lies in block g -/
def RdAt (w : World) (g : Nat) (s : ByteArray) (a e : Int) : Prop :=
  w.cell? ⟨g, 0, none⟩ = some (.string s) ∧ w.cell? ⟨g, 1, none⟩ = some (.int .i64 a) ∧ w.cell? ⟨g, 2, none⟩ = some (.int .i64 e) ∧ w.frozen? ⟨g, 1, none⟩ = false ∧ w.frozen? ⟨g, 2, none⟩ = false

/-- the worlds are alike but for block g and what is new -/
structure Only (g : Nat) (w w' : World) : Prop where
  os : w'.os = w.os
  tape : w'.tape = w.tape
  output : w'.output = w.output
  size : w.heap.size ≤ w'.heap.size
  block : ∀ k, k < w.heap.size → k ≠ g → w'.heap[k]? = w.heap[k]?
theorem Only.refl (g : Nat) (w : World) : Only g w w := ⟨rfl, rfl, rfl, Nat.le_refl _, fun _ _ _ => rfl⟩
theorem Only.trans {g : Nat} {a b c : World} (h : Only g a b) (k : Only g b c) : Only g a c :=
  ⟨k.os.trans h.os, k.tape.trans h.tape, k.output.trans h.output, Nat.le_trans h.size k.size, fun i hi hg => (k.block i (Nat.lt_of_lt_of_le hi h.size) hg).trans (h.block i hi hg)⟩
theorem _root_.Go.RowKit.Below.only {w w' : World} (h : Below w.heap.size w w') (g : Nat) : Only g w w' := ⟨h.os, h.tape, h.output, h.size, fun k hk _ => h.block k hk⟩
theorem Only.setCell {g : Nat} {a w : World} (h : Only g a w) (o : Nat) (u : Value) : Only g a (w.setCell ⟨g, o, none⟩ u) :=
  h.trans ⟨rfl, rfl, rfl, by simp [World.setCell], fun k _ hg => Below.heap_setCell _ _ _ _ hg⟩
theorem Only.below {g B : Nat} {w w' : World} (h : Only g w w') (hB : B ≤ g) (hs : B ≤ w.heap.size) : Below B w w' := ⟨h.os, h.tape, h.output, h.size, fun k hk => h.block k (by omega) (by omega)⟩

/-- a reader behind a taking of a number: its place, its error, what is answered -/
structure St where
  a : Int
  e : Int
  n : Nat
/-- a number is taken -/
def nS (s : ByteArray) (a e : Int) (fit : Bool) (unfit : Int) : St :=
  if e = 0 then if (rdAt s a).e = 0 then if fit = true then ⟨endAt a (rdAt s a), 0, (rdAt s a).n⟩ else ⟨a, unfit, 0⟩ else ⟨a, (rdAt s a).e, 0⟩ else ⟨a, e, 0⟩

set_option maxRecDepth 100000 in
set_option maxHeartbeats 400000 in
theorem err_any (g : Nat) (s : ByteArray) (a e : Int) (w : World) (h : RdAt w g s a e) :
    Calls Try.prog 50 #[.pointer (some ⟨g, 0, none⟩)] w fun r w' => r = .returned (.int .i64 e) ∧ w' = w := by
  obtain ⟨h0, h1, h2, h3, h4⟩ := h
  go_enter Try.func50, Try.ntmps50
  go_wp2
  go_ret
  exact ⟨rfl, rfl⟩
theorem RdAt.err {w : World} {g : Nat} {s : ByteArray} {a e : Int} (h : RdAt w g s a e) (x : Int) : RdAt (w.setCell ⟨g, 2, none⟩ (.int .i64 x)) g s a x := by
  obtain ⟨h0, h1, h2, h3, h4⟩ := h
  refine ⟨?_, ?_, ?_, by rw [World.frozen?_setCell]; exact h3, by rw [World.frozen?_setCell]; exact h4⟩
  · rw [World.cell?_setCell_other _ _ _ _ (by simp)]; exact h0
  · rw [World.cell?_setCell_other _ _ _ _ (by simp)]; exact h1
  · exact World.cell?_setCell_same _ _ _ h2
theorem RdAt.place {w : World} {g : Nat} {s : ByteArray} {a e : Int} (h : RdAt w g s a e) (x : Int) : RdAt (w.setCell ⟨g, 1, none⟩ (.int .i64 x)) g s x e := by
  obtain ⟨h0, h1, h2, h3, h4⟩ := h
  refine ⟨?_, ?_, ?_, by rw [World.frozen?_setCell]; exact h3, by rw [World.frozen?_setCell]; exact h4⟩
  · rw [World.cell?_setCell_other _ _ _ _ (by simp)]; exact h0
  · exact World.cell?_setCell_same _ _ _ h1
  · rw [World.cell?_setCell_other _ _ _ _ (by simp)]; exact h2
theorem RdAt.keeps {w w' : World} {g : Nat} {s : ByteArray} {a e : Int} (h : RdAt w g s a e) (hB : Below w.heap.size w w') : RdAt w' g s a e := by
  have hg := World.block_lt_of_cell? w _ h.1
  have hc := fun o => hB.cell (p := ⟨g, o, none⟩) hg
  have hf := fun o => hB.frozen (p := ⟨g, o, none⟩) hg
  obtain ⟨h0, h1, h2, h3, h4⟩ := h
  exact ⟨(hc 0).trans h0, (hc 1).trans h1, (hc 2).trans h2, (hf 1).trans h3, (hf 2).trans h4⟩

/-- the error, behind Fail -/
def failE (e x : Int) : Int := if e = 0 then x else e

set_option maxRecDepth 100000 in
set_option maxHeartbeats 400000 in
theorem fail_any (g : Nat) (s : ByteArray) (a e x : Int) (w : World) (h : RdAt w g s a e) :
    Calls Try.prog 51 #[.pointer (some ⟨g, 0, none⟩), .int .i64 x] w fun r w' => r = .returned (.tuple #[]) ∧ RdAt w' g s a (failE e x) ∧ Only g w w' := by
  have h2 := h.err x
  have HE := show Hid _ from fun (_ : Unit) => err_any g s a e w h
  have H0 := show Hid _ from h
  obtain ⟨_, _, c2, _, f2⟩ := h
  have hB : Only g w (w.setCell ⟨g, 2, none⟩ (.int .i64 x)) := (Only.refl _ _).setCell 2 _
  by_cases h0 : e = 0
  · subst h0
    go_enter Try.func51, Try.ntmps51
    go_wp2_with fail
    refine (HE.out ()).mono ?_
    rintro e w' ⟨rfl, rfl⟩
    go_wp2
    go_end0
    exact ⟨rfl, h2, hB⟩
  · have hb : (e == 0) = false := by rw [beq_eq_false_iff_ne]; exact h0
    have hE : failE e x = e := by rw [failE, if_neg h0]
    rw [hE]
    clear h0 h2 hB
    go_enter Try.func51, Try.ntmps51
    go_wp2_with fail
    refine (HE.out ()).mono ?_
    rintro e w' ⟨rfl, rfl⟩
    go_wp2
    go_end0
    exact ⟨rfl, H0.out, Only.refl _ _⟩
end Go.Proofs.Ytghcijliknahdaa
