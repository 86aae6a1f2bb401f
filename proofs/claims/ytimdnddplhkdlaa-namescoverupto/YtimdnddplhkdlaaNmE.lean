/- Items held against each other; the small run ahead of each law. -/
import Derived.Test.YtimdnddplhkdlaaNmF
import Derived.Laws.StructEq
import Derived.BigQuiet
import Derived.Deep.QuietTactic
namespace Go.Proofs.Ytimdnddplhkdlaa
open Go.RowKit Go.Shelf Go.Maps
set_option linter.unusedVariables false
set_option linter.unusedSimpArgs false

theorem guard39 : Try.prog.eqGuardType Try.prog.depth 39 = false := by kernel_rfl
theorem guard38 : Try.prog.eqGuardType Try.prog.depth 38 = false := by kernel_rfl
theorem eql39 (X Y : ByteArray) (a b : Bool) (W : World) : (binOp .eql 39 (.agg #[.string X, .bool a]) (.agg #[.string Y, .bool b])).run Try.prog W = .ok (.bool (X.toList == Y.toList && a == b)) W := by
  have u9 := Try.underlying9
  have u4 := Try.underlying4
  have z9 := Try.sizeOf9
  have z4 := Try.sizeOf4
  have a9 := Try.isAgg9
  have a4 := Try.isAgg4
  have hS : Try.prog.underlying 39 = some (.struct (Try.prog.fieldsOf 39)) := by kernel_rfl
  have hp : Try.prog.stoodInHeld 39 = false := by kernel_rfl
  rw [run_eql_struct, show (10000 : Nat) = 9999 + 1 from rfl, run_equalIn_agg W 9999 39 _ _ hS hp]
  simp only [Program.fieldsOf, Try.underlying39]
  go_simp
  by_cases h1 : X.toList = Y.toList <;> cases a <;> cases b <;> simp [h1]
theorem eql38 (X Y : ByteArray) (a b : Bool) (W : World) : (binOp .eql 38 (.agg #[.string X, .bool a]) (.agg #[.string Y, .bool b])).run Try.prog W = .ok (.bool (X.toList == Y.toList && a == b)) W := by
  have u9 := Try.underlying9
  have u4 := Try.underlying4
  have z9 := Try.sizeOf9
  have z4 := Try.sizeOf4
  have a9 := Try.isAgg9
  have a4 := Try.isAgg4
  have hS : Try.prog.underlying 38 = some (.struct (Try.prog.fieldsOf 38)) := by kernel_rfl
  have hp : Try.prog.stoodInHeld 38 = false := by kernel_rfl
  rw [run_eql_struct, show (10000 : Nat) = 9999 + 1 from rfl, run_equalIn_agg W 9999 38 _ _ hS hp]
  simp only [Program.fieldsOf, Try.underlying38]
  go_simp
  by_cases h1 : X.toList = Y.toList <;> cases a <;> cases b <;> simp [h1]
theorem neq39 (X Y : ByteArray) (a b : Bool) (W : World) : (binOp .neq 39 (.agg #[.string X, .bool a]) (.agg #[.string Y, .bool b])).run Try.prog W = .ok (.bool (!(X.toList == Y.toList && a == b))) W := by
  have h := eql39 X Y a b W
  rw [run_eql_struct] at h
  rw [run_neq_struct]
  cases hr : (Op.equalIn 10000 39 (.agg #[.string X, .bool a]) (.agg #[.string Y, .bool b])).run Try.prog W with
  | ok r W1 =>
    rw [hr] at h
    simp only [Result.andThen_ok] at h ⊢
    injection h with h1 h2
    injection h1 with h1
    rw [h1, h2]
  | _ => rw [hr] at h; cases h
theorem neq38 (X Y : ByteArray) (a b : Bool) (W : World) : (binOp .neq 38 (.agg #[.string X, .bool a]) (.agg #[.string Y, .bool b])).run Try.prog W = .ok (.bool (!(X.toList == Y.toList && a == b))) W := by
  have h := eql38 X Y a b W
  rw [run_eql_struct] at h
  rw [run_neq_struct]
  cases hr : (Op.equalIn 10000 38 (.agg #[.string X, .bool a]) (.agg #[.string Y, .bool b])).run Try.prog W with
  | ok r W1 =>
    rw [hr] at h
    simp only [Result.andThen_ok] at h ⊢
    injection h with h1 h2
    injection h1 with h1
    rw [h1, h2]
  | _ => rw [hr] at h; cases h
/-- an item's cells in a row -/
theorem gsrc_it {w W : World} {v : Value} {ad : Option Addr} {n cap : Nat} {l : List It} (hv : GSrc w v n (itC l)) (e : v = .slice ad n cap) (hn : n = l.length) (k : Nat) (hk : k < l.length) (hW : Keep (fun _ => False) w W) : ∃ g off, ad = some ⟨g, off, none⟩ ∧ g < w.heap.size ∧ W.cell? ⟨g, off + k * 2, none⟩ = some (.string (tb l[k].1)) ∧ W.cell? ⟨g, off + k * 2 + 1, none⟩ = some (.bool l[k].2) := by
  rcases hv with ⟨c, e2, hm, _⟩ | ⟨g, off, c, e2, hg, hc⟩
  · omega
  · rw [e] at e2
    injection e2 with e2
    have h0 := itC_get l k hk 0 (by omega)
    have h1 := itC_get l k hk 1 (by omega)
    exact ⟨g, off, e2, hg, (hW.cell hg (fun h => h)).trans (hc _ _ h0), (hW.cell hg (fun h => h)).trans (hc _ _ h1)⟩
set_option maxRecDepth 100000 in
set_option maxHeartbeats 2000000 in
theorem same12_true (l : List It) (v1 v2 : Value) (w : World) (h1 : GSrc w v1 l.length (itC l)) (h2 : GSrc w v2 l.length (itC l)) (hl : l.length ≤ 1048576) :
    Calls Try.prog 17 #[v1, v2] w fun e w' => e = .returned (.bool true) ∧ Keep (fun _ => False) w w' := by
  obtain ⟨a1, n1, rfl⟩ := gsrc_form h1
  obtain ⟨a2, n2, rfl⟩ := gsrc_form h2
  have HC : Hid (∀ (k : Nat) (hk : k < l.length) (W : World), Keep (fun _ => False) w W → ∃ g1 o1 g2 o2 X F, a1 = some ⟨g1, o1, none⟩ ∧ a2 = some ⟨g2, o2, none⟩ ∧ W.cell? ⟨g1, o1 + k * 2, none⟩ = some (.string X) ∧ W.cell? ⟨g1, o1 + k * 2 + 1, none⟩ = some (.bool F) ∧ W.cell? ⟨g2, o2 + k * 2, none⟩ = some (.string X) ∧ W.cell? ⟨g2, o2 + k * 2 + 1, none⟩ = some (.bool F)) := fun k hk W hW => by
    obtain ⟨g1, o1, e1, _, p1, p2⟩ := gsrc_it h1 rfl rfl k hk hW
    obtain ⟨g2, o2, e2, _, q1, q2⟩ := gsrc_it h2 rfl rfl k hk hW
    exact ⟨g1, o1, g2, o2, _, _, e1, e2, p1, p2, q1, q2⟩
  clear h1 h2
  generalize l.length = n at *
  have hne : ((n : Int) != (n : Int)) = false := by simp
  have hg := guard38
  go_enter Try.func17, Try.ntmps17
  go_wp2
  go_loopw [5] (fun i wr => ∃ k : Nat, k ≤ n ∧ i = .int .i64 k ∧ Hid (Keep (fun _ => False) w wr)) (fun i _ => n - (intOf i).toNat)
  case atStart => exact ⟨0, by omega, rfl, Keep.refl _ _⟩
  case round =>
    obtain ⟨k, hk, rfl, HK⟩ := hrel
    by_cases hlt : k < n
    · have hk0 : (0 : Int) ≤ (k : Int) := by omega
      have hk1 : (k : Int) < (n : Int) := by omega
      obtain ⟨g1, o1, g2, o2, X, F, e1, e2, p1, p2, q1, q2⟩ := HC.out k hlt wr HK.out
      subst e1 e2
      have hq : ∀ W, (binOp .neq 38 (.agg #[.string X, .bool F]) (.agg #[.string X, .bool F])).run Try.prog W = .ok (.bool false) W := fun W => by
        rw [neq38]; simp
      clear HC
      go_wp2
      go_quiet (fail)
      have HK2 := hid (HK.out.trans (kp_drewN _ wr nq))
      clear HK
      go_wp2
      exact ⟨⟨k + 1, by omega, by go_num, HK2⟩, by simp [intOf]; omega⟩
    · have hd : decide ((k : Int) < (n : Int)) = false := decide_eq_false (by omega)
      clear HC
      go_wp2
      go_ret
      exact ⟨rfl, HK.out⟩
end Go.Proofs.Ytimdnddplhkdlaa
