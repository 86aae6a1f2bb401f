/- A row of numbers: made, copied into, sorted. -/
import Derived.Test.YtghcijliknahdaaConfC
import Derived.Test.YtghcijliknahdaaLaid
import Derived.Lib.SortBridge
import Derived.Laws.CopyRow
import Derived.Laws.MakeOwn
namespace Go.Proofs.Ytghcijliknahdaa
open Go.RowKit Go.Maps Go.Sort Go.Shelf
set_option linter.unusedVariables false
set_option linter.unusedSimpArgs false

/-- numbers as cells -/
def isC (l : List Int) : List Value := l.map (Value.int .i64)
theorem isC_len (l : List Int) : (isC l).length = l.length := List.length_map ..
theorem isC_get (l : List Int) (k : Nat) (hk : k < l.length) : (isC l)[k]? = some (.int .i64 l[k]) := by simp [isC, hk]
theorem isC_set (l : List Int) (k : Nat) (x : Int) : (isC l).set k (.int .i64 x) = isC (l.set k x) := by simp [isC, List.map_set]
def srt (l : List Int) : List Int := l.mergeSort fun x y => decide (x ≤ y)
theorem srt_len (l : List Int) : (srt l).length = l.length := List.length_mergeSort l
theorem info3 : (Try.prog.info? 3).map (fun i => (i.zero, i.size, i.bytes)) = some (some (.int .i64 0), 1, 8) := by kernel_rfl
theorem sortI_any (g cap : Nat) (t : TypeId) (zs : List Int) (w : World) (hr : RowIs w g (isC zs) t) (hl : zs.length < 4611686018427387904) :
    Calls Try.prog 35 #[.slice (some ⟨g, 0, none⟩) zs.length cap] w fun e w' => e = .returned (.tuple #[]) ∧ (∀ j (hj : j < (srt zs).length), w'.cell? ⟨g, j, none⟩ = some (.int .i64 (srt zs)[j])) ∧ Keep (· = g) w w' := by
  have hH : Holds (Value.int .i64) w g 0 zs.toArray := fun j hj => by
    have hj' : j < zs.length := by simpa using hj
    refine ⟨?_, hr.frozen⟩
    rw [Nat.zero_add, hr.cellAt (isC_get zs j hj')]
    simp [hj']
  refine (AnyM.slices_Sort_int sortILaid g 0 cap zs w hH hr.lt hl).mono fun e w' ⟨he, n, os, hw⟩ => ⟨he, ?_, ?_⟩
  · rw [hw]
    have hsz : (zs.mergeSort fun x y => decide (x ≤ y)).toArray.size = zs.toArray.size := by simp
    have h1 := holds_putRow (Value.int .i64) (Sort.ahead w n) g 0 zs.toArray (zs.mergeSort fun x y => decide (x ≤ y)).toArray (holds_ahead _ _ _ _ _ _ hH) hsz
    have h2 := holds_grow (Value.int .i64) _ os g 0 _ (by simp; exact hr.lt) h1
    intro j hj
    have := (h2 j (by simpa [srt] using hj)).1
    rw [Nat.zero_add] at this
    rw [this]
    have hj2 : j < (zs.mergeSort fun x y => decide (x ≤ y)).length := hj
    simp only [List.getElem!_toArray, getElem!_pos (zs.mergeSort fun x y => decide (x ≤ y)) j hj2]
    rfl
  · rw [hw]
    refine ⟨rfl, rfl, rfl, by simp, fun k hk hn => ?_⟩
    rw [heap_grow_old _ _ (by simp; exact hk)]
    simp [putRow, mapBlock, Array.getElem?_modify, Ne.symm hn]
theorem madeI (n : Nat) (hn : n ≤ 1000000) (W : World) : (Instr.makeSlice 22 (.int .i64 (n : Int)) (.int .i64 (n : Int))).run Try.prog W = .ok (.slice (some ⟨W.heap.size, 0, none⟩) n n) (W.alloc (.cells (isC (List.replicate n 0)).toArray 3)) := by
  obtain ⟨i0, hi, hz0, hz1, hz2⟩ := info_parts info3
  have h := run_make (P := Try.prog) W 22 3 i0 (.int .i64 0) Try.underlying22 hi hz0 .i64 .i64 (n : Int) (n : Int) (by omega) (by omega) (by rw [hz2]; omega) (by omega)
  rw [h, hz1]
  have e : madeCells (Value.int .i64 0).cells ((n : Int).toNat * 1) = (isC (List.replicate n 0)).toArray := by
    rw [Int.toNat_natCast, Nat.mul_one]
    apply Array.ext
    · simp [madeCells, isC]
    · intro k h1 h2
      simp [madeCells, isC, Value.cells, Nat.mod_one]
  rw [e, Int.toNat_natCast]
/-- the first n numbers of l, then those of o -/
def pad (l o : List Int) : List Int := l.take o.length ++ o.drop (min l.length o.length)
theorem pad_len (l o : List Int) : (pad l o).length = o.length := by simp [pad]; omega
theorem pad_get (l o : List Int) (k : Nat) : (pad l o).getD k 0 = if k < o.length then (if k < l.length then l.getD k 0 else o.getD k 0) else 0 := by
  simp only [pad, List.getD_eq_getElem?_getD, List.getElem?_append, List.getElem?_take, List.getElem?_drop, List.length_take]
  by_cases h1 : k < o.length
  · by_cases h2 : k < l.length
    · have e2 : k < min o.length l.length := by omega
      simp [h1, h2, e2]
    · have e : min l.length o.length + (k - min o.length l.length) = k := by omega
      have e2 : ¬ k < min o.length l.length := by omega
      simp only [e2, e, h1, h2, if_true, if_false]
  · have e : o[min l.length o.length + (k - min o.length l.length)]? = none := List.getElem?_eq_none (by omega)
    rw [if_neg (by omega : ¬ k < min o.length l.length), e, if_neg h1]
    rfl
theorem copyI (g n cap : Nat) (t : TypeId) (v : Value) (l o : List Int) (W : World) (hr : RowIs W g (isC o) t) (hn : n = o.length) (hv : IntsI W v l) (ty : TypeId) :
    ∃ q, (Builtin.copy_ #[22, 22] ty #[.slice (some ⟨g, 0, none⟩) n cap, v]).run Try.prog W = .ok (goInt q) (W.setRow g (isC (pad l o)).toArray) := by
  subst hn
  have hinf : (Try.prog.info? 3).map (·.size) = some 1 := by obtain ⟨i0, hi, hz0, hz1, hz2⟩ := info_parts info3; rw [hi]; simp [hz1]
  rcases hv with ⟨ad, c, rfl, rfl⟩ | ⟨b, off, c, rfl, hb, hc⟩
  · refine ⟨0, ?_⟩
    have hp : pad [] o = o := by simp [pad]
    rw [hp, setRow_self _ _ _ _ _ hr]
    cases hq : Try.prog.info? 3 with
    | none => simp [hq] at hinf
    | some i => cases ad <;> simp [Builtin.copy_, run_underlying Try.underlying22, Builtin.lenOf, Builtin.firstCells, sizeOf, typeInfo, hq, storeCells, loadCells, loadCellsFrom]
  · refine ⟨(Nat.min l.length o.length : Nat), ?_⟩
    have hcs : (isC (l.take o.length)).length = Nat.min l.length o.length := by rw [isC_len, List.length_take]; exact Nat.min_comm _ _
    have := run_copy_row Try.prog W 22 22 ty 3 g 0 o.length cap ⟨b, off, none⟩ l.length c (isC o).toArray t (isC (l.take o.length)) Try.underlying22 hinf hr hcs
      (fun j u hu => by
        have hj := (List.getElem?_eq_some_iff.1 hu).1
        rw [isC_len, List.length_take] at hj
        rw [isC_get _ j (by rw [List.length_take]; exact hj)] at hu
        rw [Addr.add_lit, hc j (by omega), ← hu, List.getElem_take])
      (by rw [hcs]; simp [isC]; exact Nat.min_le_right _ _) (fun u hu => by obtain ⟨x, _, rfl⟩ := List.mem_map.1 hu; rfl)
    rw [this, hcs]
    have e : (isC o).toArray.toList.take 0 ++ isC (l.take o.length) ++ (isC o).toArray.toList.drop (0 + Nat.min l.length o.length) = isC (pad l o) := by
      rw [List.take_zero, List.nil_append, Nat.zero_add]
      unfold pad isC
      rw [List.map_append, List.map_drop]
    rw [e]
end Go.Proofs.Ytghcijliknahdaa
