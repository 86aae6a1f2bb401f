/- The walks of a disk's questions of room and of files. -/
import Derived.Test.YtnlodlpjokkepabChangeW
import Derived.BigQuiet
namespace Go.Proofs.Ytnlodlpjokkepab
open Go.RowKit Go.Maps
set_option linter.unusedVariables false
set_option linter.unusedSimpArgs false

/-- is there room for more? -/
def fitB (bd : Bool) (rm : Int) (u : Nat) (more : Int) : Bool := decide (more ≤ 0) || !bd || decide ((u : Int) + more ≤ rm)
theorem keep_drewN (w : World) (n : Nat) : Keep (fun _ => False) w (w.drewN n) := by
  have := below_drewN (Below.refl w.heap.size w) n
  exact this.keep _

set_option maxRecDepth 100000 in
set_option maxHeartbeats 2000000 in
theorem fits_any (p u : Nat) (bd : Bool) (rm more : Int) (w : World) (c1 : w.cell? ⟨p, 1, none⟩ = some (.int .i64 u)) (c7 : w.cell? ⟨p, 7, none⟩ = some (.bool bd)) (c8 : w.cell? ⟨p, 8, none⟩ = some (.int .i64 rm)) (hu : u ≤ 4611686018427387904) (hm : more ≤ 4611686018427387903) :
    Calls Try.prog 46 #[.pointer (some ⟨p, 0, none⟩), .int .i64 more] w fun e w' => e = .returned (.bool (fitB bd rm u more)) ∧ Keep (fun _ => False) w w' := by
  by_cases h1 : more ≤ 0
  · have HE : Hid (true = fitB bd rm u more) := by show _ = _; unfold fitB; simp [h1]
    go_enter Try.func46, Try.ntmps46
    go_wp2
    go_quiet (fail)
    go_wp2
    go_ret
    exact ⟨ret_bool HE.out, keep_drewN _ _⟩
  · have hd1 : decide (more ≤ 0) = false := decide_eq_false h1
    cases bd with
    | false =>
      have HE : Hid (true = fitB false rm u more) := by show _ = _; unfold fitB; simp
      go_enter Try.func46, Try.ntmps46
      go_wp2
      go_quiet (fail)
      go_wp2
      go_ret
      exact ⟨ret_bool HE.out, keep_drewN _ _⟩
    | true =>
      have hwr : wrap64 ((u : Int) + more) = (u : Int) + more := IntWalk.wrap64_in _ (by omega)
      have HE : Hid (decide ((u : Int) + more ≤ rm) = fitB true rm u more) := by show _ = _; unfold fitB; simp [h1]
      go_enter Try.func46, Try.ntmps46
      go_wp2
      go_quiet (fail)
      go_wp2
      go_ret
      exact ⟨ret_bool HE.out, keep_drewN _ _⟩

set_option maxRecDepth 100000 in
theorem has_any (p : Nat) (mo : Option Nat) (L : List (Bs × Value)) (s : ByteArray) (w : World) (c0 : w.cell? ⟨p, 0, none⟩ = some (.map mo)) (hm : MapV w mo L) (hs : s.size ≤ maxLen) :
    Calls Try.prog 51 #[.pointer (some ⟨p, 0, none⟩), .string s] w fun e w' => e = .returned (.bool (kget L s.data.toList).isSome) ∧ w' = w := by
  have hl := mapV_lookok hm s hs
  generalize (kget L s.data.toList).isSome = b at hl ⊢
  generalize (kget L s.data.toList).getD (.slice none 0 0) = v at hl
  clear hm
  go_enter Try.func51, Try.ntmps51
  go_wp2
  go_ret
  exact ⟨rfl, rfl⟩
end Go.Proofs.Ytnlodlpjokkepab
