/- The document's reader: yes or no, the end. -/
import Derived.Test.YtfdhaedpnjlpiaaRdRef
namespace Go.Proofs.Ytfdhaedpnjlpiaa
open Go.RowKit
set_option linter.unusedVariables false

theorem ref_reader_end (s : ByteArray) (a e : Int) (w : World) :
    Calls Try.prog 37 #[.agg #[.string s, .int .i64 a, .int .i64 e]] w fun r w' => r = .returned (.agg #[.string s, .int .i64 a, .int .i64 (endE s a e)]) ∧ Below w.heap.size w w' := by
  unfold endE
  by_cases he : e = 0
  · subst he
    by_cases hl : a < (s.size : Int)
    · rw [if_pos ⟨rfl, hl⟩]; exact ref_end_left s a w hl
    · rw [if_neg (fun h => hl h.2)]; exact ref_end_done s a w (by omega)
  · rw [if_neg (fun h => he h.1)]; exact ref_end_err s a e w he

theorem rd_e2 (l : List UInt8) : ∀ k acc, (rd l k acc).e ≠ 2 := by
  induction l with
  | nil => intro k acc; simp [rd]
  | cons c r ih =>
    intro k acc
    rw [rd]
    split
    · simp
    · split
      · simp
      · exact ih _ _
theorem rdAt_e2 (s : ByteArray) (a : Int) : (rdAt s a).e ≠ 2 := by
  rw [rdAt]
  split
  · exact rd_e2 _ _ _
  · simp

set_option maxRecDepth 100000 in
set_option maxHeartbeats 800000 in
theorem ref_bool_err (s : ByteArray) (a e : Int) (w : World) (he : e ≠ 0) :
    Calls Try.prog 34 #[.agg #[.string s, .int .i64 a, .int .i64 e]] w fun r w' => r = .returned (.tuple #[.agg #[.string s, .int .i64 a, .int .i64 e], .bool false]) ∧ Below w.heap.size w w' := by
  have hb : (e != 0) = true := by rw [bne_iff_ne]; exact he
  clear he
  go_enter Try.func34, Try.ntmps34
  go_wp2
  refine bodyPost_ret (v := .tuple #[.agg #[.string s, .int .i64 a, .int .i64 e], .bool false]) (by rw [results_cell_tmp rfl]; go_simp) rfl ⟨rfl, ?_⟩
  exact below_two _ _ _

set_option maxRecDepth 100000 in
set_option maxHeartbeats 800000 in
theorem ref_bool_ok (s : ByteArray) (a a' e' : Int) (n : Nat) (w : World) (he : (e' == 2) = false)
    (HR : Hid (∀ w, Calls Try.prog 28 #[.agg #[.string s, .int .i64 a, .int .i64 0], .int .u64 1] w fun r w' => r = .returned (.tuple #[.agg #[.string s, .int .i64 a', .int .i64 e'], .int .u64 n]) ∧ Below w.heap.size w w')) :
    Calls Try.prog 34 #[.agg #[.string s, .int .i64 a, .int .i64 0]] w fun r w' => r = .returned (.tuple #[.agg #[.string s, .int .i64 a', .int .i64 e'], .bool ((n : Int) == 1)]) ∧ Below w.heap.size w w' := by
  go_enter Try.func34, Try.ntmps34
  go_wp2_with fail
  refine (HR.out _).mono ?_
  rintro e w' ⟨rfl, hB⟩
  have hBx := fun o => ((Box.made _ _ _ _ _).keeps hB).keeps ((Below.refl _ _).alloc (Nat.le_refl _) o)
  simp only [World.size_alloc] at hBx
  have c0 := fun o => (hBx o).1.1
  have c1 := fun o => (hBx o).1.2.1
  have c2 := fun o => (hBx o).1.2.2
  have f0 := fun o => (hBx o).2.1
  have f1 := fun o => (hBx o).2.2.1
  have f2 := fun o => (hBx o).2.2.2
  clear hBx
  go_wp2
  refine bodyPost_ret (v := .tuple #[.agg #[.string s, .int .i64 a', .int .i64 e'], .bool ((n : Int) == 1)]) (by rw [results_cell_tmp rfl]; go_simp) rfl ⟨rfl, ?_⟩
  exact below_call hB

set_option maxRecDepth 100000 in
set_option maxHeartbeats 800000 in
theorem ref_bool_not (s : ByteArray) (a a' : Int) (n : Nat) (w : World)
    (HR : Hid (∀ w, Calls Try.prog 28 #[.agg #[.string s, .int .i64 a, .int .i64 0], .int .u64 1] w fun r w' => r = .returned (.tuple #[.agg #[.string s, .int .i64 a', .int .i64 2], .int .u64 n]) ∧ Below w.heap.size w w')) :
    Calls Try.prog 34 #[.agg #[.string s, .int .i64 a, .int .i64 0]] w fun r w' => r = .returned (.tuple #[.agg #[.string s, .int .i64 a', .int .i64 3], .bool ((n : Int) == 1)]) ∧ Below w.heap.size w w' := by
  go_enter Try.func34, Try.ntmps34
  go_wp2_with fail
  refine (HR.out _).mono ?_
  rintro e w' ⟨rfl, hB⟩
  have hBx := fun o => ((Box.made _ _ _ _ _).keeps hB).keeps ((Below.refl _ _).alloc (Nat.le_refl _) o)
  simp only [World.size_alloc] at hBx
  have c0 := fun o => (hBx o).1.1
  have c1 := fun o => (hBx o).1.2.1
  have c2 := fun o => (hBx o).1.2.2
  have f0 := fun o => (hBx o).2.1
  have f1 := fun o => (hBx o).2.2.1
  have f2 := fun o => (hBx o).2.2.2
  clear hBx
  go_wp2
  refine bodyPost_ret (v := .tuple #[.agg #[.string s, .int .i64 a', .int .i64 3], .bool ((n : Int) == 1)]) (by rw [results_cell_tmp rfl]; go_simp) rfl ⟨rfl, ?_⟩
  exact below_call hB

theorem ref_reader_bool (s : ByteArray) (a e : Int) (w : World) (hs : s.size ≤ maxLen) :
    Calls Try.prog 34 #[.agg #[.string s, .int .i64 a, .int .i64 e]] w fun r w' => r = .returned (.tuple #[.agg #[.string s, .int .i64 (nS s a e (fitB (rdAt s a).n) 3).a, .int .i64 (nS s a e (fitB (rdAt s a).n) 3).e], .bool (((nS s a e (fitB (rdAt s a).n) 3).n : Int) == 1)]) ∧ Below w.heap.size w w' := by
  by_cases he : e = 0
  · subst he
    have HR := show Hid _ from fun w => ref_reader_number s a 0 1 w hs
    have hfe : fitB (rdAt s a).n = fitN 1 (rdAt s a).n := rfl
    rw [hfe]
    unfold nS at HR ⊢
    rw [if_pos rfl] at HR ⊢
    by_cases hr : (rdAt s a).e = 0
    · rw [if_pos hr] at HR ⊢
      cases hf : fitN 1 (rdAt s a).n with
      | true => rw [hf, if_pos rfl] at HR; rw [if_pos rfl]; exact ref_bool_ok s a _ _ _ w rfl HR
      | false => rw [hf, if_neg (by decide)] at HR; rw [if_neg (by decide)]; exact ref_bool_not s a _ _ w HR
    · rw [if_neg hr] at HR ⊢; exact ref_bool_ok s a _ _ _ w (by rw [beq_eq_false_iff_ne]; exact fun h => rdAt_e2 s a (Int.ofNat_inj.mp (show ((rdAt s a).e : Int) = (2 : Nat) from h))) HR
  · unfold nS
    rw [if_neg he]; exact ref_bool_err s a e w he
end Go.Proofs.Ytfdhaedpnjlpiaa
