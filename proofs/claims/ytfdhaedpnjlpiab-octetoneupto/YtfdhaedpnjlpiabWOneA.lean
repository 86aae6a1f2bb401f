/- The walk of the law OctetOne itself. -/
import Derived.Test.YtfdhaedpnjlpiabWOne
import Derived.Deep.RegionWith
namespace Go.Proofs.Ytfdhaedpnjlpiab
open Go.RowKit
set_option linter.unusedVariables false

/-- what is held of the world through the last statement: the texts lie there, and nothing older has turned -/
def HeldS (w0 : World) (v : Value) (l : List ByteArray) (W : World) : Prop := Strs W v l ∧ Below w0.heap.size w0 W
theorem HeldS.next {w0 W W' : World} {v : Value} {l : List ByteArray} (h : HeldS w0 v l W) (hB : Below W.heap.size W W') : HeldS w0 v l W' := ⟨h.1.below hB, h.2.trans (hB.mono h.2.size)⟩
theorem HeldS.below {w0 W : World} {v : Value} {l : List ByteArray} (h : HeldS w0 v l W) : Below w0.heap.size w0 W := h.2
theorem HeldS.strs {w0 W : World} {v : Value} {l : List ByteArray} (h : HeldS w0 v l W) : Strs W v l := h.1

set_option maxRecDepth 100000 in
set_option maxHeartbeats 8000000 in
theorem octetOne_ooo (s : ByteArray) (n i : Nat) (x : ByteArray) (j : Nat) (l : List ByteArray) (k : Nat) (w : World)
    (HN' : Hid (∀ w, Calls Try.prog 9 #[.string s, .int .i64 0] w fun r w' => r = .returned (.tuple #[.int .u64 n, .int .i64 i, .int .i64 0]) ∧ w' = w))
    (HT' : Hid (∀ w, Calls Try.prog 10 #[.string s, .int .i64 0] w fun r w' => r = .returned (.tuple #[.string x, .int .i64 j, .int .i64 0]) ∧ Below w.heap.size w w'))
    (HL' : Hid (∀ w, Calls Try.prog 11 #[.string s, .int .i64 0] w fun r w' => ∃ v, r = .returned (.tuple #[v, .int .i64 k, .int .i64 0]) ∧ Strs w' v l ∧ Below w.heap.size w w'))
    (hi : i ≤ s.size) (hj : j ≤ s.size) (hk : k ≤ s.size)
    (HNN : Hid (n < 18446744073709551616)) (hni : s.extract 0 i = ⟨(put n).toArray⟩)
    (HX : Hid (x.size ≤ reachBytes)) (hxj : s.extract 0 j = ⟨(ptx x).toArray⟩)
    (HL1 : Hid (room l + 10 ≤ 140737488355328)) (HL2 : Hid (l.length ≤ 140737488355328)) (hlk : s.extract 0 k = ⟨(pls l).toArray⟩)
    : Calls Try.prog 3 #[.string s] w fun e w' => e = .returned (.bool true) ∧ Below w.heap.size w w' := by
  have d1 : decide ((s.size : Int) < (i : Int)) = false := by simp; omega
  have f1 : decide ((i : Int) < 0) = false := by simp
  have g1 : decide (s.size < i) = false := by simp; omega
  have q1 : (i : Int) ≤ s.size := by omega
  have d2 : decide ((s.size : Int) < (j : Int)) = false := by simp; omega
  have f2 : decide ((j : Int) < 0) = false := by simp
  have g2 : decide (s.size < j) = false := by simp; omega
  have q2 : (j : Int) ≤ s.size := by omega
  have d3 : decide ((s.size : Int) < (k : Int)) = false := by simp; omega
  have f3 : decide ((k : Int) < 0) = false := by simp
  have g3 : decide (s.size < k) = false := by simp; omega
  have q3 : (k : Int) ≤ s.size := by omega
  go_enter Try.func3, Try.ntmps3
  go_wp2_with fail
  refine (HN'.out _).mono ?_
  rintro e w' ⟨rfl, rfl⟩
  go_wp2_with fail
  refine (HT'.out _).mono ?_
  rintro e w2 ⟨rfl, hB2⟩
  go_wp2_with fail
  refine (HL'.out _).mono ?_
  rintro e w3 ⟨v, rfl, hv, hB3⟩
  have hB23 := hB2.trans (hB3.mono hB2.size)
  have hS0 : HeldS w3 v l w3.drew := ⟨Strs.below hv ((Below.refl _ _).drew), (Below.refl _ _).drew⟩
  have HBB := show Hid _ from hB23
  clear hv hB2 hB3 hB23 hi hj hk
  go_wp2_with fail
  go_region_held3 (HeldS w3 v l) (assumption) (first
    | (go_at_call 12; refine (awake1 _).mono ?_; rintro e w4 ⟨rfl, hB4⟩; have hS4 := HeldS.next (w0 := w3) (v := v) (l := l) (by assumption) hB4; clear hB4)
    | (go_at_call 13; refine (number_any _ _ HNN.out).mono ?_; rintro e w5 ⟨rfl, hB5⟩; have hS5 := HeldS.next (w0 := w3) (v := v) (l := l) (by assumption) hB5; clear hB5)
    | (go_at_call 14; refine (text_any _ _ HX.out).mono ?_; rintro e w6 ⟨rfl, hB6⟩; have hS6 := HeldS.next (w0 := w3) (v := v) (l := l) (by assumption) hB6; clear hB6)
    | (go_at_call 15; refine (list_any _ l _ (HeldS.strs (w0 := w3) (by assumption)) HL1.out HL2.out).mono ?_; rintro e w7 ⟨rfl, hB7⟩; have hS7 := HeldS.next (w0 := w3) (v := v) (l := l) (by assumption) hB7; clear hB7))
  go_wp2_with fail
  go_ret
  exact ⟨rfl, Below.trans HBB.out (Below.mono (HeldS.below (v := v) (l := l) (by assumption)) HBB.out.size)⟩
end Go.Proofs.Ytfdhaedpnjlpiab
