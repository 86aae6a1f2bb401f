/- The walks of calls that are refused: the disk is down, or a name is none. -/
import Derived.Test.YtnlodlpjokkepabOpsW
namespace Go.Proofs.Ytnlodlpjokkepab
open Go.RowKit Go.Maps
set_option linter.unusedVariables false
set_option linter.unusedSimpArgs false

theorem DownIs.keep {S : Nat → Prop} {w w' : World} {dp : Value} {dn : Bool} (h : DownIs w dp dn) (k : Keep S w w') (hS : ∀ p, dp = .pointer (some ⟨p, 0, none⟩) → ¬ S p) : DownIs w' dp dn := by
  rcases h with h | ⟨p, e, h⟩
  · exact .inl h
  · refine .inr ⟨p, e, ?_⟩
    have hp := World.block_lt_of_cell? _ _ h
    exact (k.cell hp (hS p e)).trans h
/-- the names in a block of their own -/
theorem ref_call1 (dp : Value) (dn : Bool) (n : ByteArray) (w : World) (h : DownIs w dp dn) : Calls Try.prog 45 #[dp, .slice (some ⟨w.heap.size, 0, none⟩) 1 1] (w.alloc (.cells #[.string n] 9)) fun e w' => e = .returned (.int .i64 (refN dn [n])) ∧ w' = w.alloc (.cells #[.string n] 9) :=
  refuses_any dp dn w.heap.size [n] _ (h.keep (keep_alloc (fun _ => False) _ _) (fun _ _ h => h)) (by simp) (fun j hj => by
    have hj0 : j = 0 := by simpa using hj
    subst hj0
    rw [cell_of_row _ _ _ _ _ _ (heap_alloc_new _ _)]; rfl)
theorem ref_call2 (dp : Value) (dn : Bool) (n m : ByteArray) (w : World) (h : DownIs w dp dn) : Calls Try.prog 45 #[dp, .slice (some ⟨w.heap.size, 0, none⟩) 2 2] (w.alloc (.cells #[.string n, .string m] 9)) fun e w' => e = .returned (.int .i64 (refN dn [n, m])) ∧ w' = w.alloc (.cells #[.string n, .string m] 9) :=
  refuses_any dp dn w.heap.size [n, m] _ (h.keep (keep_alloc (fun _ => False) _ _) (fun _ _ h => h)) (by simp) (fun j hj => by
    have hj0 : j = 0 ∨ j = 1 := by simp at hj; omega
    rcases hj0 with rfl | rfl <;> (rw [cell_of_row _ _ _ _ _ _ (heap_alloc_new _ _)]; rfl))

set_option maxRecDepth 100000 in
theorem append_refused (dp : Value) (dn : Bool) (n s : ByteArray) (w : World) (h : DownIs w dp dn) (hr : refN dn [n] ≠ 0) : Calls Try.prog 17 #[dp, .string n, .string s] w fun e w' => e = .returned (.int .i64 (refN dn [n])) ∧ Keep (fun _ => False) w w' := by
  have RC := hid (ref_call1 dp dn n w h)
  have hb : (refN dn [n] != 0) = true := by rw [bne_iff_ne]; exact hr
  generalize refN dn [n] = e at *
  clear h hr
  go_enter Try.func17, Try.ntmps17
  go_wp2_with fail
  refine RC.out.mono ?_
  rintro e w1 ⟨rfl, rfl⟩
  clear RC
  go_wp2
  go_ret
  exact ⟨rfl, keep_alloc _ _ _⟩

set_option maxRecDepth 100000 in
theorem write_refused (dp : Value) (dn : Bool) (n s : ByteArray) (w : World) (h : DownIs w dp dn) (hr : refN dn [n] ≠ 0) : Calls Try.prog 25 #[dp, .string n, .string s] w fun e w' => e = .returned (.int .i64 (refN dn [n])) ∧ Keep (fun _ => False) w w' := by
  have RC := hid (ref_call1 dp dn n w h)
  have hb : (refN dn [n] != 0) = true := by rw [bne_iff_ne]; exact hr
  generalize refN dn [n] = e at *
  clear h hr
  go_enter Try.func25, Try.ntmps25
  go_wp2_with fail
  refine RC.out.mono ?_
  rintro e w1 ⟨rfl, rfl⟩
  clear RC
  go_wp2
  go_ret
  exact ⟨rfl, keep_alloc _ _ _⟩

set_option maxRecDepth 100000 in
theorem move_refused (dp : Value) (dn : Bool) (n t : ByteArray) (w : World) (h : DownIs w dp dn) (hr : refN dn [n, t] ≠ 0) : Calls Try.prog 28 #[dp, .string n, .string t] w fun e w' => e = .returned (.int .i64 (refN dn [n, t])) ∧ Keep (fun _ => False) w w' := by
  have RC := hid (ref_call2 dp dn n t w h)
  have hb : (refN dn [n, t] != 0) = true := by rw [bne_iff_ne]; exact hr
  generalize refN dn [n, t] = e at *
  clear h hr
  go_enter Try.func28, Try.ntmps28
  go_wp2_with fail
  refine RC.out.mono ?_
  rintro e w1 ⟨rfl, rfl⟩
  clear RC
  go_wp2
  go_ret
  exact ⟨rfl, keep_alloc _ _ _⟩

set_option maxRecDepth 100000 in
theorem remove_refused (dp : Value) (dn : Bool) (n : ByteArray) (w : World) (h : DownIs w dp dn) (hr : refN dn [n] ≠ 0) : Calls Try.prog 33 #[dp, .string n] w fun e w' => e = .returned (.int .i64 (refN dn [n])) ∧ Keep (fun _ => False) w w' := by
  have RC := hid (ref_call1 dp dn n w h)
  have hb : (refN dn [n] != 0) = true := by rw [bne_iff_ne]; exact hr
  generalize refN dn [n] = e at *
  clear h hr
  go_enter Try.func33, Try.ntmps33
  go_wp2_with fail
  refine RC.out.mono ?_
  rintro e w1 ⟨rfl, rfl⟩
  clear RC
  go_wp2
  go_ret
  exact ⟨rfl, keep_alloc _ _ _⟩

set_option maxRecDepth 100000 in
theorem cut_refused (dp : Value) (dn : Bool) (n : ByteArray) (l : Int) (w : World) (h : DownIs w dp dn) (hr : refN dn [n] ≠ 0) : Calls Try.prog 34 #[dp, .string n, .int .i64 l] w fun e w' => e = .returned (.int .i64 (refN dn [n])) ∧ Keep (fun _ => False) w w' := by
  have RC := hid (ref_call1 dp dn n w h)
  have hb : (refN dn [n] != 0) = true := by rw [bne_iff_ne]; exact hr
  generalize refN dn [n] = e at *
  clear h hr
  go_enter Try.func34, Try.ntmps34
  go_wp2_with fail
  refine RC.out.mono ?_
  rintro e w1 ⟨rfl, rfl⟩
  clear RC
  go_wp2
  go_ret
  exact ⟨rfl, keep_alloc _ _ _⟩

set_option maxRecDepth 100000 in
theorem read_refused (dp : Value) (dn : Bool) (n : ByteArray) (w : World) (h : DownIs w dp dn) (hr : refN dn [n] ≠ 0) : Calls Try.prog 20 #[dp, .string n] w fun e w' => e = .returned (.tuple #[.string ⟨#[]⟩, .int .i64 (refN dn [n])]) ∧ Keep (fun _ => False) w w' := by
  have RC := hid (ref_call1 dp dn n w h)
  have hb : (refN dn [n] != 0) = true := by rw [bne_iff_ne]; exact hr
  generalize refN dn [n] = e at *
  clear h hr
  go_enter Try.func20, Try.ntmps20
  go_wp2_with fail
  refine RC.out.mono ?_
  rintro e w1 ⟨rfl, rfl⟩
  clear RC
  go_wp2
  go_ret2
  exact ⟨rfl, keep_alloc _ _ _⟩
end Go.Proofs.Ytnlodlpjokkepab
