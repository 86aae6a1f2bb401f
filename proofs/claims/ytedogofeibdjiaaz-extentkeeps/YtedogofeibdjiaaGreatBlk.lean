/- Laws at one operation, for arrays that are laid, built, stored and loaded whole. -/
import Derived.Test.YtedogofeibdjiaaGreatJoined01
import Derived.Deep.MidRow
import Derived.Deep.WholeRow
namespace Go.Proofs.YtedogofeibdjiaaGreat
open Go.RowKit
set_option linter.unusedVariables false

/-- words as cells -/
def us (l : List Nat) : List Value := l.map fun n : Nat => Value.int .u32 (n : Int)
theorem us_len (l : List Nat) : (us l).length = l.length := by simp [us]
theorem us_one (l : List Nat) : ∀ v ∈ us l, v.oneCell' = true := by
  intro v hv; simp [us] at hv; obtain ⟨n, _, rfl⟩ := hv; rfl
theorem bs_one (l : List UInt8) : ∀ v ∈ bs l, v.oneCell' = true := by
  intro v hv; simp [bs] at hv; obtain ⟨n, _, rfl⟩ := hv; rfl
theorem us_all (l : List Nat) : (us l).toArray.all (·.oneCell') = true := all_oneCell_toArray (us_one l)
theorem bs_all (l : List UInt8) : (bs l).toArray.all (·.oneCell') = true := all_oneCell_toArray (bs_one l)

section
variable {P : Program} {ops : Array Oper} {rest : List Oper} {o : Oper} {a : Act} {w : World} {Q : Exit → Act → World → Prop}
/-- for the walk's arms: only at an operation -/
theorem wpl_id (h : wpList P ops Q rest a w) : wpList P ops Q rest a w := h
/-- an operation that comes to a value -/
theorem wpl_value (hg : o.guard = none) (v : Value) (w' : World) (h : (execOp a.eval o).run P w = .ok (.value v) w') (k : wpList P ops Q rest (a.put o.dst v) w') : wpList P ops Q (o :: rest) a w :=
  wpList_plain hg fun _ hK => by unfold Oper.wp; rw [h]; exact hK _ _ k
/-- an operation that comes to a value, whatever the world -/
theorem wpl_pure (v : Value) (hg : o.guard = none) (h : ∀ w, (execOp a.eval o).run P w = .ok (.value v) w) (k : wpList P ops Q rest (a.put o.dst v) w) : wpList P ops Q (o :: rest) a w :=
  wpl_value hg _ _ (h w) k
/-- an operation that comes to nothing -/
theorem wpl_skip (hg : o.guard = none) (w' : World) (h : (execOp a.eval o).run P w = .ok .skip w') (k : wpList P ops Q rest (a.put o.dst undef) w') : wpList P ops Q (o :: rest) a w :=
  wpList_plain hg fun _ hK => by unfold Oper.wp; rw [h]; exact hK _ _ k
/-- a block is laid -/
theorem wpl_alloc (t : TypeId) (z : Array Value) (hz : ∀ w, (Instr.alloc t true (.tuple #[])).run P w = .ok (.pointer (some ⟨w.heap.size, 0, none⟩)) (w.alloc (.cells z t)))
    (hg : o.guard = none) (ho : o.op = .alloc t) (k : wpList P ops Q rest (a.put o.dst (.pointer (some ⟨w.heap.size, 0, none⟩))) (w.alloc (.cells z t))) : wpList P ops Q (o :: rest) a w :=
  wpl_value hg _ _ (by unfold execOp; simp only [ho, Sem.run_bind, hz w, Result.andThen_ok, Sem.run_pure]) k
/-- a value is laid in a block -/
theorem wpl_box (t : TypeId) (x : Operand) (z : Array Value) (hz : ∀ w, (Instr.box t (.agg z)).run P w = .ok (.pointer (some ⟨w.heap.size, 0, none⟩)) (w.alloc (.cells z t)))
    (hg : o.guard = none) (ho : o.op = .box t x) (hx : a.eval x = .agg z) (k : wpList P ops Q rest (a.put o.dst (.pointer (some ⟨w.heap.size, 0, none⟩))) (w.alloc (.cells z t))) : wpList P ops Q (o :: rest) a w :=
  wpl_value hg _ _ (by unfold execOp; simp only [ho, hx, Sem.run_bind, hz w, Result.andThen_ok, Sem.run_pure]) k
/-- a value is stored into a block, whole -/
theorem wpl_store_new (t : TypeId) (x y : Operand) (g : Nat) (c : Array Value) (w0 : World) (z : Array Value) (hw : w = w0.alloc (.cells z t)) (hg' : g = w0.heap.size)
    (hi : (P.info? t).map (·.size) = some c.size) (hs : z.size = c.size) (h1 : c.all (·.oneCell') = true)
    (hg : o.guard = none) (ho : o.op = .store t x y) (hx : a.eval x = .pointer (some ⟨g, 0, none⟩)) (hy : a.eval y = .agg c)
    (k : wpList P ops Q rest (a.put o.dst undef) (w0.alloc (.cells c t))) : wpList P ops Q (o :: rest) a w := by
  subst hw; subst hg'
  exact wpl_skip hg _ (by unfold execOp; simp only [ho, hx, hy, Sem.run_bind, run_storeAt_new w0 t z c hi hs h1, Result.andThen_ok, Sem.run_pure]) k
end

/-- blocks of zeros -/
def z64 : Array Value := (us (List.replicate 64 0)).toArray
def z8 : Array Value := (us (List.replicate 8 0)).toArray
theorem alloc61 (w : World) : (Instr.alloc 170 true (.tuple #[])).run Tryz.prog w = .ok (.pointer (some ⟨w.heap.size, 0, none⟩)) (w.alloc (.cells z64 170)) := by kernel_rfl
theorem alloc50 (w : World) : (Instr.alloc 151 true (.tuple #[])).run Tryz.prog w = .ok (.pointer (some ⟨w.heap.size, 0, none⟩)) (w.alloc (.cells z8 151)) := by kernel_rfl
theorem alloc43 (w : World) : (Instr.alloc 130 true (.tuple #[])).run Tryz.prog w = .ok (.pointer (some ⟨w.heap.size, 0, none⟩)) (w.alloc (.cells z8 130)) := by kernel_rfl
theorem info61 : (Tryz.prog.info? 170).map (·.size) = some 64 := by kernel_rfl
theorem infoBlk : (Tryz.prog.info? 151).map (·.size) = some 8 := by kernel_rfl
theorem info43 : (Tryz.prog.info? 130).map (·.size) = some 8 := by kernel_rfl
theorem info51 : (Tryz.prog.info? 152).map (·.size) = some 64 := by kernel_rfl

/-- the numbers of the rounds, as cells -/
def kCells : Array Value := (us kNums).toArray
theorem kCells_size : kCells.size = 64 := by simp [kCells, us_len, kNums_len]

set_option maxRecDepth 100000 in
set_option maxHeartbeats 400000 in
theorem roundNumbers_any (w : World) :
    Calls Tryz.prog 127 #[] w fun e w' => e = .returned (.agg kCells) ∧ Below w.heap.size w w' := by
  go_enter Tryz.func127, Tryz.ntmps127
  go_wp2_with (first
    | (refine wpl_alloc 170 z64 alloc61 rfl rfl ?_)
    | (refine wpl_pure (o := { dst := some 1, op := .build 170 _, type := _, pos := _, after := _, guard := none }) (.agg kCells) rfl (fun _ => by kernel_rfl) ?_)
    | (refine wpl_store_new 170 _ _ _ kCells w z64 rfl rfl (by rw [kCells_size]; exact info61) (by rw [kCells_size]; rfl) (us_all _) rfl rfl rfl rfl ?_))
  exact bodyPost_ret (v := .agg kCells) (results_cell_row (p := 0) rfl _ _ w.heap.size 170 kCells (0, 0) _ rfl (heap_alloc_new _ _) Tryz.underlying170 rfl (by rw [kCells_size]; exact info61)) rfl ⟨rfl, (Below.refl _ _).alloc (Nat.le_refl _) _⟩

/-- a state, as cells -/
def c8 (s : St8) : Array Value := #[.int .u32 s.a, .int .u32 s.b, .int .u32 s.c, .int .u32 s.d, .int .u32 s.e, .int .u32 s.f, .int .u32 s.g, .int .u32 s.h]
theorem c8_all (s : St8) : (c8 s).all (·.oneCell') = true := us_all [s.a, s.b, s.c, s.d, s.e, s.f, s.g, s.h]

set_option maxRecDepth 100000 in
set_option maxHeartbeats 400000 in
theorem firstState_any (w : World) :
    Calls Tryz.prog 112 #[] w fun e w' => e = .returned (.agg (c8 first8)) ∧ Below w.heap.size w w' := by
  go_enter Tryz.func112, Tryz.ntmps112
  go_wp2_with (first
    | (refine wpl_alloc 151 z8 alloc50 rfl rfl ?_)
    | (refine wpl_pure (o := { dst := some 1, op := .build 151 _, type := _, pos := _, after := _, guard := none }) (.agg (c8 first8)) rfl (fun _ => by kernel_rfl) ?_)
    | (refine wpl_store_new 151 _ _ _ (c8 first8) w z8 rfl rfl infoBlk rfl (c8_all _) rfl rfl rfl rfl ?_))
  exact bodyPost_ret (v := .agg (c8 first8)) (results_cell_row (p := 0) rfl _ _ w.heap.size 151 (c8 first8) (0, 0) _ rfl (heap_alloc_new _ _) Tryz.underlying151 rfl infoBlk) rfl ⟨rfl, (Below.refl _ _).alloc (Nat.le_refl _) _⟩

theorem kNums_lt : ∀ i, kNums.getD i 0 < 4294967296 := by
  intro i
  by_cases h : i < 64
  · have : ∀ j : Fin 64, kNums.getD j.val 0 < 4294967296 := by decide
    exact this ⟨i, h⟩
  · rw [List.getD_eq_getElem?_getD, List.getElem?_eq_none (by rw [kNums_len]; omega)]; decide
theorem kCells_at (i : Nat) (h : i < 64) : kCells[i]? = some (.int .u32 ((kNums.getD i 0 : Nat) : Int)) := by
  have hl := kNums_len
  unfold kCells us
  generalize kNums = l at hl ⊢
  simp [hl, h]

set_option maxRecDepth 100000 in
set_option maxHeartbeats 400000 in
theorem rnumber_any (i : Nat) (w : World) (hi : i < 64) :
    Calls Tryz.prog 118 #[.int .i64 i] w fun e w' => e = .returned (.int .u32 ((kNums.getD i 0 : Nat) : Int)) ∧ Below w.heap.size w w' := by
  have hc := kCells_at i hi
  have hcell : (w.alloc (.cells kCells 170)).cell? ⟨w.heap.size, i, none⟩ = some (.int .u32 ((kNums.getD i 0 : Nat) : Int)) := by rw [cell_of_row _ _ _ _ _ _ (heap_alloc_new _ _)]; exact hc
  generalize kNums.getD i 0 = K at hc hcell ⊢
  have hi0 : (0 : Int) ≤ (i : Int) := by omega
  have hi1 : (i : Int) < 64 := by omega
  clear hc
  go_enter Tryz.func118, Tryz.ntmps118
  go_wp2_with (first
    | (refine wpl_alloc 170 z64 alloc61 rfl rfl ?_)
    | (refine wpl_pure (o := { dst := some 4, op := .build 170 _, type := _, pos := _, after := _, guard := none }) (.agg kCells) rfl (fun _ => by kernel_rfl) ?_)
    | (refine wpl_store_new 170 _ _ _ kCells w z64 rfl rfl (by rw [kCells_size]; exact info61) (by rw [kCells_size]; rfl) (us_all _) rfl rfl rfl rfl ?_))
  go_ret
  exact ⟨rfl, (Below.refl _ _).alloc (Nat.le_refl _) _⟩
end Go.Proofs.YtedogofeibdjiaaGreat
