/- The walks of the two puttings of a wide number. -/
import Derived.Test.YtfdhaedpnjlpiabBase
import Derived.Test.YtfdhaedpnjlpiabWideM
namespace Go.Proofs.Ytfdhaedpnjlpiab
open Go.RowKit
set_option linter.unusedVariables false

set_option maxHeartbeats 400000 in
theorem isWide_yes (k : Int) (w : World) (h0 : 1 ≤ k) (h1 : k ≤ 8) :
    Calls Try.prog 38 #[.int .i64 k] w fun e w' => e = .returned (.bool true) ∧ w' = w := by
  go_enter Try.func38, Try.ntmps38
  go_wp2
  all_goals go_ret
  all_goals exact ⟨rfl, rfl⟩
set_option maxHeartbeats 400000 in
theorem isWide_no (k : Int) (w : World) (h : ¬ (1 ≤ k ∧ k ≤ 8)) :
    Calls Try.prog 38 #[.int .i64 k] w fun e w' => e = .returned (.bool false) ∧ w' = w := by
  by_cases h0 : 1 ≤ k
  · have h1 : ¬ k ≤ 8 := by omega
    clear h
    go_enter Try.func38, Try.ntmps38
    go_wp2
    all_goals go_ret
    all_goals exact ⟨rfl, rfl⟩
  · clear h
    go_enter Try.func38, Try.ntmps38
    go_wp2
    all_goals go_ret
    all_goals exact ⟨rfl, rfl⟩

theorem ret_wide {n : Nat} {k : Int} {x : ByteArray} {e : Int} (h1 : x = ⟨(wideR n k).toArray⟩) (h2 : e = wideE n k) :
    Ending.returned (.tuple #[.string x, .int .i64 e]) = .returned (.tuple #[.string ⟨(wideR n k).toArray⟩, .int .i64 (wideE n k)]) := by rw [h1, h2]

theorem rel_store {w wr : World} {g n wide k : Nat} (hk : k < wide) (hown : wr.ownsRow g 5 1 (.slice (some ⟨g, 0, none⟩) wide wide) wide (bs (laidW n wide k))) (hB : Below g w wr) {x : Int} (hx : x = (UInt8.ofNat (n / 256 ^ k)).toNat) :
    (wr.setCell ⟨g, wide - 1 - k, none⟩ (.int .u8 x)).ownsRow g 5 1 (.slice (some ⟨g, 0, none⟩) wide wide) wide (bs (laidW n wide (k + 1))) ∧ Below g w (wr.setCell ⟨g, wide - 1 - k, none⟩ (.int .u8 x)) := by
  subst hx
  refine ⟨?_, hB.setCell (Nat.le_refl _) _⟩
  have := (hown.stored (wide - 1 - k) (.int .u8 (UInt8.ofNat (n / 256 ^ k)).toNat)).1
  rw [bs_set, laidW_step n wide k hk] at this
  exact this

theorem row_cell {wr : World} {g n wide k : Nat} (hk : k < wide) (hown : wr.ownsRow g 5 1 (.slice (some ⟨g, 0, none⟩) wide wide) wide (bs (laidW n wide k))) : ∃ x, wr.cell? ⟨g, wide - 1 - k, none⟩ = some (.int .u8 x) := by
  have h := hown.cellAt (wide - 1 - k) (by omega)
  have hl := laidW_len n wide k (by omega)
  rw [h, bs, List.getElem?_map, List.getElem?_eq_getElem (by omega)]
  exact ⟨_, rfl⟩

set_option maxRecDepth 100000 in
set_option maxHeartbeats 800000 in
theorem wide_in (n k : Nat) (w : World) (hn : n < 18446744073709551616) (h1 : 1 ≤ k) (h8 : k ≤ 8) :
    Calls Try.prog 32 #[.int .u64 n, .int .i64 k] w fun e w' => e = .returned (.tuple #[.string ⟨(wideR n k).toArray⟩, .int .i64 (wideE n k)]) ∧ Below w.heap.size w w' := by
  obtain ⟨i0, hi, hz0, hz1, hz2⟩ := info_parts info8
  by_cases hf : n < 256 ^ k
  · have hb := shr8_ne n k hf
    have HW := show Hid _ from wide_yes n k h1 h8 hf
    clear hf
    go_enter Try.func32, Try.ntmps32
    go_wp2_with (first | (go_at_call 38; refine (isWide_yes _ _ (by omega) (by omega)).mono ?_; rintro e w' ⟨rfl, rfl⟩) | (at_make; refine wpList_make_full _ rfl (.tmp 18) (.tmp 18) 52 rfl w'.heap.size 5 i0 (.int .u8 0) 1 Try.underlying52 hi hz0 hz1 .i64 .i64 _ _ k rfl rfl rfl rfl ?c1 ?c2 (Nat.le_refl _) ?_))
    case c1 => rw [hz2]; omega
    case c2 => unfold maxLen; omega
    intro w2 hown0 hgrow
    have hB0 : Below w'.heap.size w' w2 := (Below.refl _ _).grown hgrow (Nat.le_refl _) (by intro k hk; cases hk)
    have hown : w2.ownsRow w'.heap.size 5 1 (.slice (some ⟨w'.heap.size, 0, none⟩) k k) k (bs (laidW n k 0)) := by
      have e : (madeCells #[Value.int .u8 0] k).toList = bs (laidW n k 0) := by
        rw [toList_madeCells_one]; simp [laidW, be, bs_zero]
      rw [e] at hown0; exact hown0
    clear hown0 hgrow
    generalize hg : w'.heap.size = g at hown hB0 ⊢
    go_wp2
    go_loopw [21] (fun i wr => ∃ j : Nat, j ≤ k ∧ i = .int .i64 j ∧ wr.ownsRow g 5 1 (.slice (some ⟨g, 0, none⟩) k k) k (bs (laidW n k j)) ∧ Below g w' wr) (fun i _ => k - (intOf i).toNat)
    case atStart => exact ⟨0, by omega, rfl, hown, hB0⟩
    case round =>
      clear hown hB0
      obtain ⟨j, hj, rfl, hown, hB⟩ := hrel
      by_cases hlt : j < k
      · obtain ⟨x0, hcell⟩ := row_cell hlt hown
        have hfz := hown.frozenAt (k - 1 - j)
        have R := rel_store hlt hown hB (shr8_byte n j)
        clear hown hB
        go_wp2
        go_roundw
        case rel => exact ⟨j + 1, by omega, by go_num, R.1, R.2⟩
        case measure => simp [intOf]; omega
      · have hjk : j = k := by omega
        subst hjk
        rw [laidW_full] at hown
        have hne : be n j ≠ [] := by intro h; have := be_len n j; rw [h] at this; simp at this; omega
        have hcv := convert_owned hown hne
        clear hown
        go_wp2
        go_ret2
        exact ⟨ret_wide (by rw [HW.out.1]) (by rw [HW.out.2]; rfl), by rw [hg]; exact hB⟩
  · have hb := shr8_ne' n k hf
    have HW := show Hid _ from wide_no n k (by intro h; exact hf (by simpa using h.2.2))
    clear hf
    go_enter Try.func32, Try.ntmps32
    go_wp2_with (first | (go_at_call 38; refine (isWide_yes _ _ (by omega) (by omega)).mono ?_; rintro e w' ⟨rfl, rfl⟩))
    go_ret2
    exact ⟨ret_wide (by rw [HW.out.1]) (by rw [HW.out.2]; rfl), Below.refl _ _⟩

set_option maxRecDepth 100000 in
set_option maxHeartbeats 400000 in
theorem wide_out (n : Nat) (k : Int) (w : World) (h : ¬ (1 ≤ k ∧ k ≤ 8)) :
    Calls Try.prog 32 #[.int .u64 n, .int .i64 k] w fun e w' => e = .returned (.tuple #[.string ⟨(wideR n k).toArray⟩, .int .i64 (wideE n k)]) ∧ Below w.heap.size w w' := by
  have HW := show Hid _ from wide_no n k (fun c => h ⟨c.1, c.2.1⟩)
  have H := show Hid _ from h
  clear h
  go_enter Try.func32, Try.ntmps32
  go_wp2_with (first | (go_at_call 38; refine (isWide_no _ _ H.out).mono ?_; rintro e w' ⟨rfl, rfl⟩))
  go_ret2
  exact ⟨ret_wide (by rw [HW.out.1]) (by rw [HW.out.2]; rfl), Below.refl _ _⟩

theorem wide_any (n : Nat) (k : Int) (w : World) (hn : n < 18446744073709551616) :
    Calls Try.prog 32 #[.int .u64 n, .int .i64 k] w fun e w' => e = .returned (.tuple #[.string ⟨(wideR n k).toArray⟩, .int .i64 (wideE n k)]) ∧ Below w.heap.size w w' := by
  by_cases h : 1 ≤ k ∧ k ≤ 8
  · obtain ⟨m, rfl⟩ := Int.eq_ofNat_of_zero_le (show 0 ≤ k by omega)
    exact wide_in n m w hn (by omega) (by omega)
  · exact wide_out n k w h
end Go.Proofs.Ytfdhaedpnjlpiab
