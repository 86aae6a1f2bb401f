/- The document's text of a path, of a name. -/
import Derived.Test.YtnohkhgoejjfhaaDoorPeC
namespace Go.Proofs.YtnohkhgoejjfhaaDoor
open Go.RowKit
set_option linter.unusedVariables false
set_option linter.unusedSimpArgs false

theorem addP (a b : List UInt8) (W : World) (h : a.length + b.length ≤ 1073741824) : (Op.stringOp .add ⟨a.toArray⟩ ⟨b.toArray⟩).run Tryd.prog W = .ok (.string ⟨(a ++ b).toArray⟩) W := by
  have e : (⟨(a ++ b).toArray⟩ : ByteArray) = ⟨a.toArray⟩ ++ ⟨b.toArray⟩ := by
    apply ByteArray.ext
    simp [ByteArray.data_append]
  rw [e]
  exact run_string_add_sum (P := Tryd.prog) (w := W) _ _ (by show a.toArray.size + b.toArray.size ≤ _; simp; omega)
theorem escB_take (p : UInt8 → Bool) (s : ByteArray) (k : Nat) (h : k < s.size) : escL p (s.data.toList.take (k + 1)) = escL p (s.data.toList.take k) ++ esc1 p s[k] := by
  rw [escL_take p _ k (by simpa using h)]; rfl

set_option maxRecDepth 100000 in
set_option maxHeartbeats 1000000 in
theorem rpath_any (s : ByteArray) (w : World) (hs : s.size ≤ 1048576) : Calls Tryd.prog 12 #[.string s] w fun e w' => e = .returned (.string ⟨(escL plP s.data.toList).toArray⟩) ∧ Below w.heap.size w w' := by
  have HE0 : Hid (Below w.heap.size w w) := Below.refl _ _
  go_enter Tryd.func12, Tryd.ntmps12
  go_wp2
  go_loopw [3, 4] (fun v i wr => ∃ k : Nat, k ≤ s.size ∧ i = .int .i64 k ∧ v = .string ⟨(escL plP (s.data.toList.take k)).toArray⟩ ∧ Hid (Below w.heap.size w wr)) (fun _ i _ => s.size - (intOf i).toNat)
  case atStart => exact ⟨0, by omega, rfl, rfl, HE0⟩
  case round =>
    clear HE0
    obtain ⟨k, hk, rfl, rfl, HE⟩ := hrel
    rename World => w1
    by_cases hlt : k < s.size
    · have hk0 : (0 : Int) ≤ (k : Int) := by omega
      have hk1 : (k : Int) < (s.size : Int) := by omega
      have HS := hid (escB_take plP s k hlt)
      have HO := hid (one47_any s[k] w1)
      have hlen : (escL plP (s.data.toList.take k)).length ≤ 3 * k := by have := (escL_len plP (s.data.toList.take k)).2; rw [List.length_take] at this; omega
      have hle1 := (esc1_len plP s[k]).2
      generalize esc1 plP s[k] = E at HS HO hle1
      generalize hc : s[k] = c at HO
      generalize escL plP (s.data.toList.take k) = H at HS hlen
      have hcat := fun W : World => addP H E W (by omega)
      go_wp2_with fail
      refine HO.out.mono ?_
      rintro e w2 ⟨rfl, hb⟩
      have HE2 : Hid (Below w.heap.size w w2) := HE.out.trans (hb.mono HE.out.size)
      clear hb HE
      go_wp2
      exact ⟨⟨k + 1, by omega, by go_num, by rw [HS.out], HE2⟩, by simp [intOf]; omega⟩
    · have hd : decide ((k : Int) < (s.size : Int)) = false := decide_eq_false (by omega)
      have hd2 : decide (k < s.size) = false := decide_eq_false hlt
      have e : s.data.toList.take k = s.data.toList := List.take_of_length_le (by simp; omega)
      rw [e]
      clear e
      go_wp2
      go_ret
      exact ⟨rfl, HE.out⟩

set_option maxRecDepth 100000 in
set_option maxHeartbeats 1000000 in
theorem rname_any (s : ByteArray) (w : World) (hs : s.size ≤ 1048576) : Calls Tryd.prog 14 #[.string s] w fun e w' => e = .returned (.string ⟨(escL plB s.data.toList).toArray⟩) ∧ Below w.heap.size w w' := by
  have HE0 : Hid (Below w.heap.size w w) := Below.refl _ _
  go_enter Tryd.func14, Tryd.ntmps14
  go_wp2
  go_loopw [3, 4] (fun v i wr => ∃ k : Nat, k ≤ s.size ∧ i = .int .i64 k ∧ v = .string ⟨(escL plB (s.data.toList.take k)).toArray⟩ ∧ Hid (Below w.heap.size w wr)) (fun _ i _ => s.size - (intOf i).toNat)
  case atStart => exact ⟨0, by omega, rfl, rfl, HE0⟩
  case round =>
    clear HE0
    obtain ⟨k, hk, rfl, rfl, HE⟩ := hrel
    rename World => w1
    by_cases hlt : k < s.size
    · have hk0 : (0 : Int) ≤ (k : Int) := by omega
      have hk1 : (k : Int) < (s.size : Int) := by omega
      have HS := hid (escB_take plB s k hlt)
      have HO := hid (one0_any s[k] w1)
      have hlen : (escL plB (s.data.toList.take k)).length ≤ 3 * k := by have := (escL_len plB (s.data.toList.take k)).2; rw [List.length_take] at this; omega
      have hle1 := (esc1_len plB s[k]).2
      generalize esc1 plB s[k] = E at HS HO hle1
      generalize hc : s[k] = c at HO
      generalize escL plB (s.data.toList.take k) = H at HS hlen
      have hcat := fun W : World => addP H E W (by omega)
      go_wp2_with fail
      refine HO.out.mono ?_
      rintro e w2 ⟨rfl, hb⟩
      have HE2 : Hid (Below w.heap.size w w2) := HE.out.trans (hb.mono HE.out.size)
      clear hb HE
      go_wp2
      exact ⟨⟨k + 1, by omega, by go_num, by rw [HS.out], HE2⟩, by simp [intOf]; omega⟩
    · have hd : decide ((k : Int) < (s.size : Int)) = false := decide_eq_false (by omega)
      have hd2 : decide (k < s.size) = false := decide_eq_false hlt
      have e : s.data.toList.take k = s.data.toList := List.take_of_length_le (by simp; omega)
      rw [e]
      clear e
      go_wp2
      go_ret
      exact ⟨rfl, HE.out⟩
end Go.Proofs.YtnohkhgoejjfhaaDoor
