/- The walk of the document's putting of a wide number. -/
import Derived.Test.YtfdhaedpnjlpiabWide
namespace Go.Proofs.Ytfdhaedpnjlpiab
open Go.RowKit
set_option linter.unusedVariables false

set_option maxRecDepth 100000 in
set_option maxHeartbeats 800000 in
theorem ref_wide_in (n k : Nat) (w : World) (hn : n < 18446744073709551616) (h1 : 1 ≤ k) (h8 : k ≤ 8) :
    Calls Try.prog 34 #[.int .u64 n, .int .i64 k] w fun e w' => e = .returned (.tuple #[.string ⟨(wideR n k).toArray⟩, .int .i64 (wideE n k)]) ∧ Below w.heap.size w w' := by
  obtain ⟨i0, hi, hz0, hz1, hz2⟩ := info_parts info8
  have t1 : decide ((k : Int) < 1) = false := by simp; omega
  have t2 : decide (8 < (k : Int)) = false := by simp; omega
  have t3 : decide (8 < k) = false := by simp; omega
  go_enter Try.func34, Try.ntmps34
  go_wp2_with (first | (at_make; refine wpList_make_full _ rfl (.tmp 14) (.tmp 14) 52 rfl w.heap.size 5 i0 (.int .u8 0) 1 Try.underlying52 hi hz0 hz1 .i64 .i64 _ _ k rfl rfl rfl rfl ?c1 ?c2 (Nat.le_refl _) ?_))
  case c1 => rw [hz2]; omega
  case c2 => unfold maxLen; omega
  intro w2 hown0 hgrow
  have hB0 : Below w.heap.size w w2 := (Below.refl _ _).grown hgrow (Nat.le_refl _) (by intro k hk; cases hk)
  have hown : w2.ownsRow w.heap.size 5 1 (.slice (some ⟨w.heap.size, 0, none⟩) k k) k (bs (laidW n k 0)) := by
    have e : (madeCells #[Value.int .u8 0] k).toList = bs (laidW n k 0) := by
      rw [toList_madeCells_one]; simp [laidW, be, bs_zero]
    rw [e] at hown0; exact hown0
  clear hown0 hgrow
  generalize hg : w.heap.size = g at hown hB0 ⊢
  go_wp2
  go_loopw [0, 7] (fun c i wr => ∃ j m : Nat, j ≤ k ∧ i = .int .i64 ((k : Int) - 1 - j) ∧ c = .int .u64 m ∧ m ≤ 18446744073709551615 ∧ Hid (m = n / 256 ^ j) ∧ wr.ownsRow g 5 1 (.slice (some ⟨g, 0, none⟩) k k) k (bs (laidW n k j)) ∧ Below g w wr) (fun _ i _ => (intOf i + 1).toNat)
  case atStart => exact ⟨0, n, by omega, by simp, rfl, by omega, (by show n = _; simp), hown, hB0⟩
  case round =>
    clear hown hB0
    obtain ⟨j, m, hj, rfl, rfl, hm, HM, hown, hB⟩ := hrel
    by_cases hlt : j < k
    · obtain ⟨x0, hcell⟩ := row_cell hlt hown
      have hfz := hown.frozenAt (k - 1 - j)
      have R := rel_store hlt hown hB (show (m : Int) % 256 = _ by rw [HM.out]; simp)
      clear hown hB
      go_wp2
      go_roundw
      case rel => exact ⟨j + 1, m / 256, by omega, by go_num, by go_num, by omega, (by show m / 256 = _; rw [HM.out, Nat.div_div_eq_div_mul, Nat.pow_succ]), R.1, R.2⟩
      case measure => simp [intOf]; omega
    · have hjk : j = k := by omega
      subst hjk
      rw [laidW_full] at hown
      have hne : be n j ≠ [] := by intro h; have := be_len n j; rw [h] at this; simp at this; omega
      have hcv := convert_owned hown hne
      clear hown
      by_cases hf : n < 256 ^ j
      · have HW := show Hid _ from wide_yes n j h1 h8 hf
        have hb : ((m : Int) != 0) = false := by rw [HM.out, Nat.div_eq_of_lt hf]; rfl
        clear hf
        go_wp2
        go_ret2
        exact ⟨ret_wide (by rw [HW.out.1]) (by rw [HW.out.2]; rfl), by rw [hg]; exact hB⟩
      · have HW := show Hid _ from wide_no n j (by intro h; exact hf (by simpa using h.2.2))
        have hb : ((m : Int) != 0) = true := by
          have hp : 0 < n / 256 ^ j := Nat.div_pos (by omega) (Nat.pos_of_ne_zero (by simp))
          rw [← HM.out] at hp
          rw [bne_iff_ne]; omega
        clear hf
        go_wp2
        go_ret2
        exact ⟨ret_wide (by rw [HW.out.1]) (by rw [HW.out.2]; rfl), by rw [hg]; exact hB⟩

set_option maxRecDepth 100000 in
set_option maxHeartbeats 400000 in
theorem ref_wide_out (n : Nat) (k : Int) (w : World) (h : ¬ (1 ≤ k ∧ k ≤ 8)) :
    Calls Try.prog 34 #[.int .u64 n, .int .i64 k] w fun e w' => e = .returned (.tuple #[.string ⟨(wideR n k).toArray⟩, .int .i64 (wideE n k)]) ∧ Below w.heap.size w w' := by
  have HW := show Hid _ from wide_no n k (fun c => h ⟨c.1, c.2.1⟩)
  by_cases h0 : k < 1
  · clear h
    go_enter Try.func34, Try.ntmps34
    go_wp2
    go_ret2
    exact ⟨ret_wide (by rw [HW.out.1]) (by rw [HW.out.2]; rfl), Below.refl _ _⟩
  · have h2 : 8 < k := by omega
    clear h
    go_enter Try.func34, Try.ntmps34
    go_wp2
    go_ret2
    exact ⟨ret_wide (by rw [HW.out.1]) (by rw [HW.out.2]; rfl), Below.refl _ _⟩

theorem ref_wide_any (n : Nat) (k : Int) (w : World) (hn : n < 18446744073709551616) :
    Calls Try.prog 34 #[.int .u64 n, .int .i64 k] w fun e w' => e = .returned (.tuple #[.string ⟨(wideR n k).toArray⟩, .int .i64 (wideE n k)]) ∧ Below w.heap.size w w' := by
  by_cases h : 1 ≤ k ∧ k ≤ 8
  · obtain ⟨m, rfl⟩ := Int.eq_ofNat_of_zero_le (show 0 ≤ k by omega)
    exact ref_wide_in n m w hn (by omega) (by omega)
  · exact ref_wide_out n k w h
end Go.Proofs.Ytfdhaedpnjlpiab
