/- The walks of the putting of a text: its size's bytes, and it. -/
import Derived.Test.YtbiapepalkdkdaaPutNum
import Derived.Test.YtbiapepalkdkdaaTextM
namespace Go.Proofs.Ytbiapepalkdkdaa
open Go.RowKit
set_option linter.unusedVariables false

/-- a text's bytes -/
def ptx (s : ByteArray) : List UInt8 := put s.size ++ s.data.toList
theorem ptx_len (s : ByteArray) : (ptx s).length = (put s.size).length + s.size := by simp [ptx]

set_option maxRecDepth 100000 in
set_option maxHeartbeats 800000 in
theorem appendText_any (base len : Nat) (v : Value) (xs : List Value) (s : ByteArray) (w : World) (hl : len + 10 + s.size ≤ 140737488355328) (hbase : base ≤ w.heap.size)
    (hown : w.ownsRow base 5 1 v len xs) :
    Calls Try.prog 80 #[v, .string s] w fun e w' =>
      ∃ v', e = .returned v' ∧ w'.ownsRow base 5 1 v' (len + (ptx s).length) (xs ++ bs (ptx s)) ∧ Below base w w' := by
  have HP := show Hid _ from ptx_len s
  have HQ := show Hid (bs (ptx s) = bs (put s.size) ++ Lib.strCells s) from by show bs (ptx s) = _; rw [ptx, bs_append, bs_str]
  generalize ptx s = P at HP HQ ⊢
  have hpl := (put_len s.size).2
  obtain ⟨i0, hi, hz0, hz1, hz2⟩ := info_parts info8
  go_enter Try.func80, Try.ntmps80
  go_wp2_with fail
  refine (appendNumber_any base len _ xs s.size _ (by omega) (by omega) hbase hown).mono ?_
  rintro e w2 ⟨v2, rfl, hown2, hB2⟩
  have hb2 : base ≤ w2.heap.size := Nat.le_trans hbase hB2.size
  clear hown
  generalize put s.size = Q at HP HQ hpl hown2
  go_wp2_with (at_builtin; refine Lib.wpList_append_own_string _ rfl (.tmp 9) (.tmp 10) 83 9 rfl base 5 i0 Try.underlying83 Try.underlying9 hi hz0 hz1 hz2 _ _ _ rfl hown2 s rfl ?c1 ?c2 hb2 ?_)
  case c1 => unfold maxLen; omega
  case c2 => omega
  intro v' w1 hown' hgrow _
  have R := own_below hb2 hown2 hB2 hgrow
  have HO := show Hid (w1.ownsRow base 5 1 v' (len + Q.length + s.size) (xs ++ bs Q ++ Lib.strCells s)) from by first | exact hown' | (show w1.ownsRow _ _ _ _ _ _; rw [List.append_assoc]; exact hown')
  clear hown' hgrow hown2 hB2
  go_wp2
  go_ret
  refine ⟨_, rfl, ?_, R⟩
  rw [HP.out, HQ.out, ← Nat.add_assoc]
  exact own_assoc HO.out

set_option maxRecDepth 100000 in
set_option maxHeartbeats 400000 in
theorem text_any (s : ByteArray) (w : World) (hs : s.size ≤ reachBytes) :
    Calls Try.prog 67 #[.string s] w fun e w' => e = .returned (.string ⟨(ptx s).toArray⟩) ∧ Below w.heap.size w w' := by
  have hr : reachBytes + 4096 ≤ 140737488355328 := by decide
  go_enter Try.func67, Try.ntmps67
  go_wp2_with fail
  refine (appendText_any w.heap.size 0 _ [] s _ (by omega) (Nat.le_refl _) (World.ownsRow_nil _ _ _ _)).mono ?_
  rintro e w' ⟨v', rfl, hown, hB⟩
  have hne : ptx s ≠ [] := by have := (put_len s.size).1; have := ptx_len s; intro h; simp [h] at this; omega
  have hcv := convert_owned (by simpa using hown) hne
  clear hown
  go_wp2
  go_ret
  exact ⟨rfl, hB⟩

end Go.Proofs.Ytbiapepalkdkdaa
