/- The walk of the law FrameReads, of bytes up to 1048576: it answers true. -/
import Derived.Test.YtfdhaedpnjlpiabRefFrames
import Derived.Test.YtfdhaedpnjlpiabAwake2
import Derived.Test.YtfdhaedpnjlpiabSame
namespace Go.Proofs.Ytfdhaedpnjlpiab
open Go.RowKit
set_option linter.unusedVariables false

theorem fsF_len (s : ByteArray) : ∀ (f a : Nat) (acc : List ByteArray), acc.length ≤ a → a ≤ s.size → (fsF s f a acc).l.length ≤ s.size := by
  intro f
  induction f with
  | zero => intro a acc h1 h2; simp [fsF]; omega
  | succ f ih =>
    intro a acc h1 h2
    rw [fsF]
    split
    · rename_i h
      have := unf_ok s a h
      exact ih _ _ (by simp; omega) (by omega)
    · simp; omega
theorem fs_len (s : ByteArray) : (fs s).l.length ≤ s.size := fsF_len s _ 0 [] (by simp) (by omega)

set_option maxRecDepth 100000 in
set_option maxHeartbeats 800000 in
theorem frameReads_walk (s : ByteArray) (a : Int) (w : World) (hs : s.size ≤ 1048576) (ha : (Lit.int .i64 a).wf = true) :
    Calls Try.prog 6 #[.string s, .int .i64 a] w fun e w' => e = .returned (.bool true) ∧ Below w.heap.size w w' := by
  have H1 := show Hid _ from fun w => unframe_any s a w (by omega)
  have H2 := show Hid _ from fun w => ref_unframe_any s a w (by omega)
  have H3 := show Hid _ from fun w => frames_any s w (by omega)
  have H4 := show Hid _ from fun w => ref_frames_any s w (by omega)
  have HL := show Hid _ from fs_len s
  generalize unfAt s a = T at H1 H2
  generalize fs s = G at H3 H4 HL
  go_enter Try.func6, Try.ntmps6
  go_wp2_with fail
  refine (H1.out _).mono ?_
  rintro e w1 ⟨rfl, hB1⟩
  go_wp2_with fail
  refine (H2.out _).mono ?_
  rintro e w2 ⟨rfl, rfl⟩
  go_wp2_with fail
  refine (H3.out _).mono ?_
  rintro e w3 ⟨u, rfl, hu, hB3⟩
  have hu' := show Hid _ from Strs.own hu
  clear hu
  go_wp2_with fail
  refine (H4.out _).mono ?_
  rintro e w4 ⟨v, rfl, hv, hB4⟩
  have hv' := show Hid _ from Strs.own hv
  clear hv
  go_wp2_with fail
  refine (awake2 _).mono ?_
  rintro e w5 ⟨rfl, hB5⟩
  go_wp2_with fail
  refine (same_any u v G.l _ (Strs.below (Strs.below hu'.out hB4) hB5) (Strs.below hv'.out hB5) (by have := HL.out; omega)).mono ?_
  rintro e w6 ⟨rfl, hB6⟩
  go_wp2
  go_ret
  have h3 := hB1.trans (hB3.mono hB1.size)
  have h4 := h3.trans (hB4.mono h3.size)
  have h5 := h4.trans (hB5.mono h4.size)
  exact ⟨rfl, h5.trans (hB6.mono h5.size)⟩
end Go.Proofs.Ytfdhaedpnjlpiab
