/- Joined: The walk of strings.Clone: the same bytes come back; nothing that was there has turned. The walk of octet's reading of a text: it comes to 'txtAt'. A reader: what it holds in memory, and what its calls come to. The walk of the document's reading of a text: it comes to 'txtAt'. -/
import Derived.Test.YtnldjcoajliciaaGreatJoined01
import Derived.Lib.Strings
import Derived.Lib.BufferWrite
import Derived.Lib.UnsafeStr
import Derived.Laws.MakeOwn
import Derived.Test.YtnldjcoajliciaaGreatJoined00
namespace Go.Proofs.YtnldjcoajliciaaGreat
open Go.RowKit
set_option linter.unusedVariables false

theorem cells5 : Tryz.prog.cellsOf 5 = 1 := by kernel_rfl

set_option maxHeartbeats 1000000 in
set_option maxRecDepth 100000 in
theorem clone_any (s : ByteArray) (w : World) (hlim : s.size ≤ 140737488355328) :
    Calls Tryz.prog 38 #[.string s] w fun e w' => e = .returned (.string s) ∧ Below w.heap.size w w' := by
  by_cases h0 : s.size = 0
  · have hs : s = ⟨#[]⟩ := by
      apply ByteArray.ext
      exact Array.eq_empty_of_size_eq_zero h0
    subst hs
    go_enter Tryz.func38, Tryz.ntmps38
    go_wp2
    go_ret
    exact ⟨rfl, Below.refl _ _⟩
  · obtain ⟨i0, hi, hz0, hz1, hz2⟩ := info_parts info8
    have hinfo : (Tryz.prog.info? 5).map (·.size) = some 1 := by rw [hi]; simp [hz1]
    obtain ⟨M, hM⟩ : ∃ M, M = madeCells (Value.int .u8 0).cells (((s.size : Nat) : Int).toNat * i0.size) := ⟨_, rfl⟩
    have hMs : M.size = s.size := by rw [hM, size_madeCells, hz1]; simp
    have hmk : ∀ W : World, (Instr.makeSlice 83 (.int .i64 (s.size : Int)) (.int .i64 (s.size : Int))).run Tryz.prog W = .ok (.slice (some ⟨W.heap.size, 0, none⟩) s.size s.size) (W.alloc (.cells M 5)) := fun W => by
      have h := run_make (P := Tryz.prog) W 83 5 i0 (.int .u8 0) Tryz.underlying83 hi hz0 .i64 .i64 (s.size : Int) (s.size : Int) (by omega) (by omega) (by rw [hz2]; omega) (by omega)
      rw [← hM] at h
      simpa using h
    clear hM
    have hcp := Lib.run_copy_row_string (P := Tryz.prog) (w.alloc (.cells M 5)) 83 9 3 5 w.heap.size 0 s.size s.size s M 5 Tryz.underlying83 hinfo (heap_alloc_new w _) (Nat.le_refl _) (by omega)
    obtain ⟨Y, hY⟩ : ∃ Y, Y = (M.toList.take 0 ++ Lib.byteCells s.data.toList ++ M.toList.drop (0 + s.size)).toArray := ⟨_, rfl⟩
    rw [← hY] at hcp
    have hYl : Y.toList = Lib.byteCells s.data.toList := by
      rw [hY, List.toList_toArray, List.take_zero, List.nil_append, List.drop_of_length_le (by rw [Array.length_toList]; omega), List.append_nil]
    have hYs : Y.size = s.size := by rw [← Array.length_toList, hYl, Lib.byteCells_length, ← Lib.size_eq]
    have hgY : ((w.alloc (.cells M 5)).setRow w.heap.size Y).heap[w.heap.size]? = some (.cells Y 5 (0, 0)) := setRow_heap _ _ M _ 5 (0, 0) (heap_alloc_new w _)
    have hne : s.data.toList ≠ [] := fun e => h0 (by rw [Lib.size_eq, e]; rfl)
    have hUS := Lib.run_unsafeString_row (P := Tryz.prog) ((w.alloc (.cells M 5)).setRow w.heap.size Y) 112 3 9 5 Tryz.underlying112 cells5 w.heap.size Y.size (by unfold World.shape?; rw [hgY]) s.data.toList hne (by rw [← Lib.size_eq]; omega) (by rw [← Lib.size_eq]; omega)
      (fun j x hx => Lib.cells_of_row hgY Y.size j _ (by rw [List.take_of_length_le (by rw [Array.length_toList]; exact Nat.le_refl _), hYl]; simp [Lib.byteCells, hx]))
    rw [← Lib.size_eq] at hUS
    clear hY
    go_enter Tryz.func38, Tryz.ntmps38
    go_wp2
    go_ret
    have hb1 : Below w.heap.size w (w.alloc (.cells M 5)) := (Below.refl _ w).alloc (Nat.le_refl _) _
    have hb2 : Below w.heap.size (w.alloc (.cells M 5)) ((w.alloc (.cells M 5)).setRow w.heap.size Y) := ⟨rfl, rfl, rfl, by simp, fun k hk => setRow_other _ _ _ _ (by omega)⟩
    exact ⟨rfl, Lib.below_freeze (hb1.trans hb2) (p := ⟨w.heap.size, 0, none⟩) (Nat.le_refl _) _⟩
end Go.Proofs.YtnldjcoajliciaaGreat
namespace Go.Proofs.YtnldjcoajliciaaGreat
open Go.RowKit
set_option linter.unusedVariables false

end Go.Proofs.YtnldjcoajliciaaGreat
namespace Go.Proofs.YtnldjcoajliciaaGreat
open Go.RowKit
set_option linter.unusedVariables false

/-- a reader lies in block g -/
def RdAt (w : World) (g : Nat) (s : ByteArray) (a e : Int) : Prop :=
  w.cell? ⟨g, 0, none⟩ = some (.string s) ∧ w.cell? ⟨g, 1, none⟩ = some (.int .i64 a) ∧ w.cell? ⟨g, 2, none⟩ = some (.int .i64 e) ∧ w.frozen? ⟨g, 1, none⟩ = false ∧ w.frozen? ⟨g, 2, none⟩ = false


/-- a reader behind a taking of a number: its place, its error, what is answered -/
structure St where
  a : Int
  e : Int
  n : Nat
/-- a number is taken -/
def nS (s : ByteArray) (a e : Int) (fit : Bool) (unfit : Int) : St :=
  if e = 0 then if (rdAt s a).e = 0 then if fit = true then ⟨endAt a (rdAt s a), 0, (rdAt s a).n⟩ else ⟨a, unfit, 0⟩ else ⟨a, (rdAt s a).e, 0⟩ else ⟨a, e, 0⟩

set_option maxRecDepth 100000 in
set_option maxHeartbeats 400000 in
theorem err_any (g : Nat) (s : ByteArray) (a e : Int) (w : World) (h : RdAt w g s a e) :
    Calls Tryz.prog 114 #[.pointer (some ⟨g, 0, none⟩)] w fun r w' => r = .returned (.int .i64 e) ∧ w' = w := by
  obtain ⟨h0, h1, h2, h3, h4⟩ := h
  go_enter Tryz.func114, Tryz.ntmps114
  go_wp2
  go_ret
  exact ⟨rfl, rfl⟩
theorem RdAt.err {w : World} {g : Nat} {s : ByteArray} {a e : Int} (h : RdAt w g s a e) (x : Int) : RdAt (w.setCell ⟨g, 2, none⟩ (.int .i64 x)) g s a x := by
  obtain ⟨h0, h1, h2, h3, h4⟩ := h
  refine ⟨?_, ?_, ?_, by rw [World.frozen?_setCell]; exact h3, by rw [World.frozen?_setCell]; exact h4⟩
  · rw [World.cell?_setCell_other _ _ _ _ (by simp)]; exact h0
  · rw [World.cell?_setCell_other _ _ _ _ (by simp)]; exact h1
  · exact World.cell?_setCell_same _ _ _ h2
theorem RdAt.place {w : World} {g : Nat} {s : ByteArray} {a e : Int} (h : RdAt w g s a e) (x : Int) : RdAt (w.setCell ⟨g, 1, none⟩ (.int .i64 x)) g s x e := by
  obtain ⟨h0, h1, h2, h3, h4⟩ := h
  refine ⟨?_, ?_, ?_, by rw [World.frozen?_setCell]; exact h3, by rw [World.frozen?_setCell]; exact h4⟩
  · rw [World.cell?_setCell_other _ _ _ _ (by simp)]; exact h0
  · exact World.cell?_setCell_same _ _ _ h1
  · rw [World.cell?_setCell_other _ _ _ _ (by simp)]; exact h2
theorem RdAt.keeps {w w' : World} {g : Nat} {s : ByteArray} {a e : Int} (h : RdAt w g s a e) (hB : Below w.heap.size w w') : RdAt w' g s a e := by
  have hg := World.block_lt_of_cell? w _ h.1
  have hc := fun o => hB.cell (p := ⟨g, o, none⟩) hg
  have hf := fun o => hB.frozen (p := ⟨g, o, none⟩) hg
  obtain ⟨h0, h1, h2, h3, h4⟩ := h
  exact ⟨(hc 0).trans h0, (hc 1).trans h1, (hc 2).trans h2, (hf 1).trans h3, (hf 2).trans h4⟩

/-- the error, behind Fail -/
def failE (e x : Int) : Int := if e = 0 then x else e

set_option maxRecDepth 100000 in
set_option maxHeartbeats 400000 in
theorem rdfail_any (g : Nat) (s : ByteArray) (a e x : Int) (w : World) (h : RdAt w g s a e) :
    Calls Tryz.prog 116 #[.pointer (some ⟨g, 0, none⟩), .int .i64 x] w fun r w' => r = .returned (.tuple #[]) ∧ RdAt w' g s a (failE e x) ∧ Only g w w' := by
  have h2 := h.err x
  have HE := show Hid _ from fun (_ : Unit) => err_any g s a e w h
  have H0 := show Hid _ from h
  obtain ⟨_, _, c2, _, f2⟩ := h
  have hB : Only g w (w.setCell ⟨g, 2, none⟩ (.int .i64 x)) := (Only.refl _ _).setCell 2 _
  by_cases h0 : e = 0
  · subst h0
    go_enter Tryz.func116, Tryz.ntmps116
    go_wp2_with fail
    refine (HE.out ()).mono ?_
    rintro e w' ⟨rfl, rfl⟩
    go_wp2
    go_end0
    exact ⟨rfl, h2, hB⟩
  · have hb : (e == 0) = false := by rw [beq_eq_false_iff_ne]; exact h0
    have hE : failE e x = e := by rw [failE, if_neg h0]
    rw [hE]
    clear h0 h2 hB
    go_enter Tryz.func116, Tryz.ntmps116
    go_wp2_with fail
    refine (HE.out ()).mono ?_
    rintro e w' ⟨rfl, rfl⟩
    go_wp2
    go_end0
    exact ⟨rfl, H0.out, Only.refl _ _⟩
end Go.Proofs.YtnldjcoajliciaaGreat
namespace Go.Proofs.YtnldjcoajliciaaGreat
open Go.RowKit
set_option linter.unusedVariables false

end Go.Proofs.YtnldjcoajliciaaGreat
