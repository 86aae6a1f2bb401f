/- The walk of the law OctetLists, of arguments of bulk up to 1048576: it answers true. -/
import Derived.Test.YtfdhaedpnjlpiaaAwake1
import Derived.Test.YtfdhaedpnjlpiaaRefPutLst
import Derived.Test.YtfdhaedpnjlpiaaRefLst
import Derived.Test.YtfdhaedpnjlpiaaSame
namespace Go.Proofs.Ytfdhaedpnjlpiaa
open Go.RowKit
set_option linter.unusedVariables false

theorem room_len' (l : List ByteArray) : 10 * l.length ≤ room l := by
  induction l with
  | nil => simp [room]
  | cons y r ih => simp only [room, List.map_cons, List.sum_cons, List.length_cons] at ih ⊢; omega

theorem lstF_len (s : ByteArray) : ∀ (c : Nat) (a : Int) (acc : List ByteArray), (acc.length : Int) ≤ a → a ≤ s.size → (lstF s c a acc).l.length ≤ s.size := by
  intro c
  induction c with
  | zero => intro a acc h1 h2; simp [lstF]; omega
  | succ c ih =>
    intro a acc h1 h2
    rw [lstF]
    split
    · rename_i h
      have := txt_ok s a h
      exact ih _ _ (by simp; omega) (by omega)
    · simp
theorem lstAt_len (s : ByteArray) (a : Int) : (lstAt s a).l.length ≤ s.size := by
  unfold lstAt
  split
  · rename_i h
    have := rdAt_bounds s a h
    exact lstF_len s _ _ _ (by simp; omega) (by omega)
  · simp

set_option maxRecDepth 100000 in
set_option maxHeartbeats 800000 in
theorem octetLists_walk (v : Value) (xs : List ByteArray) (s : ByteArray) (a : Int) (w : World) (hv : Strs w v xs) (hr : room xs ≤ 10485760) (hs : s.size ≤ 1048576) (ha : (Lit.int .i64 a).wf = true) :
    Calls Try.prog 5 #[v, .string s, .int .i64 a] w fun e w' => e = .returned (.bool true) ∧ Below w.heap.size w w' := by
  have hrl := room_len' xs
  have H1 := show Hid _ from fun w => readList_any s a w (by omega)
  have H2 := show Hid _ from fun w => ref_readList_any s a w (by omega)
  have HL := show Hid _ from lstAt_len s a
  generalize lstAt s a = G at H1 H2 HL
  have H3 := show Hid (∀ w, Strs w v xs → _) from fun w h => list_any v xs w h (by omega) (by omega)
  have H4 := show Hid (∀ w, Strs w v xs → _) from fun w h => ref_list_any v xs w h hr (by omega)
  generalize pls xs = P at H3 H4
  have HV := show Hid _ from hv
  clear hv hrl
  go_enter Try.func5, Try.ntmps5
  go_wp2_with fail
  refine (H1.out _).mono ?_
  rintro e w1 ⟨u, rfl, hu, hB1⟩
  have hu' := show Hid _ from Strs.own hu
  clear hu
  go_wp2_with fail
  refine (H2.out _).mono ?_
  rintro e w2 ⟨y, rfl, hy, hB2⟩
  have hy' := show Hid _ from Strs.own hy
  clear hy
  go_wp2_with fail
  refine (awake1 _).mono ?_
  rintro e w3 ⟨rfl, hB3⟩
  have h2 := hB1.trans (hB2.mono hB1.size)
  have h3 := h2.trans (hB3.mono h2.size)
  go_wp2_with fail
  refine (H3.out _ (Strs.below HV.out h3)).mono ?_
  rintro e w4 ⟨rfl, hB4⟩
  have h4 := h3.trans (hB4.mono h3.size)
  go_wp2_with fail
  refine (H4.out _ (Strs.below HV.out h4)).mono ?_
  rintro e w5 ⟨rfl, hB5⟩
  have h5 := h4.trans (hB5.mono h4.size)
  go_wp2_with fail
  refine (same_any u y G.l _ (Strs.below (Strs.below (Strs.below (Strs.below hu'.out hB2) hB3) hB4) hB5) (Strs.below (Strs.below (Strs.below hy'.out hB3) hB4) hB5) (by have := HL.out; omega)).mono ?_
  rintro e w6 ⟨rfl, hB6⟩
  go_wp2
  go_ret
  exact ⟨rfl, h5.trans (hB6.mono h5.size)⟩
end Go.Proofs.Ytfdhaedpnjlpiaa
