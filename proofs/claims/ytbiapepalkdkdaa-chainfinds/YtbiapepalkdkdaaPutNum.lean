/- The walks of the putting of a number: the bytes are laid behind those of a slice that the call owns. -/
import Derived.Test.YtbiapepalkdkdaaBase
namespace Go.Proofs.Ytbiapepalkdkdaa
open Go.RowKit
set_option linter.unusedVariables false

theorem rel_put {base : Nat} {w wr w1 : World} {v v' : Value} {len : Nat} {xs : List Value} {ys : List UInt8} {c : UInt8} {x : Int} (hx : x = c.toNat) (hbase : base ≤ wr.heap.size)
    (hown : wr.ownsRow base 5 1 v (len + ys.length) (xs ++ bs ys)) (hB : Below base w wr)
    (hown' : w1.ownsRow base 5 1 v' (len + ys.length + 1) (xs ++ (bs ys ++ [.int .u8 x]))) (hg : (wr.alloc (.cells #[.int .u8 x] 5)).grownBy w1 v.ownBlock) :
    w1.ownsRow base 5 1 v' (len + (ys ++ [c]).length) (xs ++ bs (ys ++ [c])) ∧ Below base w w1 := by
  subst hx
  refine ⟨?_, ?_⟩
  · rw [bs_append, List.length_append]
    exact hown'
  · refine ((hB.alloc hbase _).grown hg (by simp; omega) ?_)
    intro k hk
    rcases hown.2 with ⟨h, _⟩ | ⟨g, cap, cur, h, hgb, _⟩
    · subst h; simp [Value.ownBlock] at hk
    · subst h; simp [Value.ownBlock] at hk; omega

set_option maxRecDepth 100000 in
set_option maxHeartbeats 800000 in
theorem appendNumber_any (base len : Nat) (v : Value) (xs : List Value) (n : Nat) (w : World) (hn : n < 18446744073709551616) (hl : len + 10 ≤ 140737488355328) (hbase : base ≤ w.heap.size)
    (hown : w.ownsRow base 5 1 v len xs) :
    Calls Try.prog 65 #[v, .int .u64 n] w fun e w' =>
      ∃ v', e = .returned v' ∧ w'.ownsRow base 5 1 v' (len + (put n).length) (xs ++ bs (put n)) ∧ Below base w w' := by
  have hP : Hid (put n = [] ++ putF (9 - 0) n) := rfl
  generalize put n = P at hP ⊢
  obtain ⟨i0, hi, hz0, hz1, hz2⟩ := info_parts info8
  go_enter Try.func65, Try.ntmps65
  go_wp2
  go_loopw [0, 1, 5] (fun v m i wr => ∃ (k n' : Nat) (ys : List UInt8), k ≤ 9 ∧ i = .int .i64 k ∧ m = .int .u64 n' ∧ n' ≤ 18446744073709551615 ∧ ys.length ≤ 9 ∧ wr.ownsRow base 5 1 v (len + ys.length) (xs ++ bs ys) ∧ Below base w wr ∧ Hid (ys.length = k) ∧ Hid (P = ys ++ putF (9 - k) n')) (fun _ _ i _ => 9 - (intOf i).toNat)
  case atStart => exact ⟨0, n, [], by omega, rfl, rfl, by omega, by simp, by simpa [bs] using hown, Below.refl _ _, rfl, hP⟩
  case round =>
    clear hP hown
    obtain ⟨k, n', ys, hk, rfl, rfl, hn', hyl, hown, hB, hyk, hP⟩ := hrel
    have hbr : base ≤ wr.heap.size := Nat.le_trans hbase hB.size
    by_cases hk9 : k < 9
    · by_cases h128 : n' < 128
      · have HQ : Hid (P = ys ++ [UInt8.ofNat n']) := by show P = _; rw [hP.out, putF_small _ _ h128]
        have HX := show Hid _ from byte_small n' h128
        clear hP
        go_wp2_with (at_builtin; refine wpList_append_own _ rfl (.tmp 19) (.tmp 22) 83 rfl base 5 i0 (.int .u8 0) 1 1 Try.underlying83 hi hz0 hz1 hz2 rfl (by decide) _ _ _ rfl (hown.alloc _) ⟨wr.heap.size, 0, none⟩ 1 1 [_] rfl rfl (cell_one_new _ _ _) ?c2 ?c3 ?c4 ?c5 ?_)
        case c2 => intro u hu; simp at hu; subst hu; rfl
        case c3 => unfold maxLen; omega
        case c4 => omega
        case c5 => simp; omega
        intro v' w1 hown' hgrow _
        have R := rel_put HX.out hbr hown hB hown' hgrow
        clear hown' hgrow hown hB HX
        go_wp2
        go_ret
        exact ⟨_, rfl, by rw [HQ.out]; exact R.1, R.2⟩
      · have HQ : Hid (P = (ys ++ [UInt8.ofNat (n' % 128 + 128)]) ++ putF (9 - (k + 1)) (n' / 128)) := by
          show P = _
          rw [hP.out, show 9 - k = (9 - (k + 1)) + 1 by omega, putF_more _ _ h128]; simp
        have HX := show Hid _ from low_is2 n' (by omega)
        have HY := show Hid _ from shr_is n'
        clear hP
        go_wp2_with (at_builtin; refine wpList_append_own _ rfl (.tmp 9) (.tmp 14) 83 rfl base 5 i0 (.int .u8 0) 1 1 Try.underlying83 hi hz0 hz1 hz2 rfl (by decide) _ _ _ rfl (hown.alloc _) ⟨wr.heap.size, 0, none⟩ 1 1 [_] rfl rfl (cell_one_new _ _ _) ?c2 ?c3 ?c4 ?c5 ?_)
        case c2 => intro u hu; simp at hu; subst hu; rfl
        case c3 => unfold maxLen; omega
        case c4 => omega
        case c5 => simp; omega
        intro v' w1 hown' hgrow _
        have R := rel_put HX.out hbr hown hB hown' hgrow
        clear hown' hgrow hown hB HX
        go_wp2
        go_roundw
        case rel => exact ⟨k + 1, n' / 128, ys ++ [UInt8.ofNat (n' % 128 + 128)], by omega, by go_num, congrArg (Value.int .u64) HY.out, by omega, by have := hyk.out; simp; omega, R.1, R.2, by have := hyk.out; show _ = _; simp; omega, HQ⟩
        case measure => simp [intOf]; omega
    · have hk9' : k = 9 := by omega
      subst hk9'
      have HQ : Hid (P = ys ++ [UInt8.ofNat n']) := by show P = _; rw [hP.out]; rfl
      have HX := show Hid _ from byte_is2 n'
      clear hP
      go_wp2_with (at_builtin; refine wpList_append_own _ rfl (.tmp 19) (.tmp 22) 83 rfl base 5 i0 (.int .u8 0) 1 1 Try.underlying83 hi hz0 hz1 hz2 rfl (by decide) _ _ _ rfl (hown.alloc _) ⟨wr.heap.size, 0, none⟩ 1 1 [_] rfl rfl (cell_one_new _ _ _) ?c2 ?c3 ?c4 ?c5 ?_)
      case c2 => intro u hu; simp at hu; subst hu; rfl
      case c3 => unfold maxLen; omega
      case c4 => omega
      case c5 => simp; omega
      intro v' w1 hown' hgrow _
      have R := rel_put HX.out hbr hown hB hown' hgrow
      clear hown' hgrow hown hB HX
      go_wp2
      go_ret
      exact ⟨_, rfl, by rw [HQ.out]; exact R.1, R.2⟩

set_option maxRecDepth 100000 in
set_option maxHeartbeats 400000 in
theorem number_any (n : Nat) (w : World) (hn : n < 18446744073709551616) :
    Calls Try.prog 46 #[.int .u64 n] w fun e w' => e = .returned (.string ⟨(put n).toArray⟩) ∧ Below w.heap.size w w' := by
  go_enter Try.func46, Try.ntmps46
  go_wp2_with fail
  refine (appendNumber_any w.heap.size 0 _ [] n _ hn (by omega) (Nat.le_refl _) (World.ownsRow_nil _ _ _ _)).mono ?_
  rintro e w' ⟨v', rfl, hown, hB⟩
  have hne : put n ≠ [] := by have := (put_len n).1; intro h; simp [h] at this
  have hcv := convert_owned (by simpa using hown) hne
  clear hown
  go_wp2
  go_ret
  exact ⟨rfl, hB⟩
end Go.Proofs.Ytbiapepalkdkdaa
