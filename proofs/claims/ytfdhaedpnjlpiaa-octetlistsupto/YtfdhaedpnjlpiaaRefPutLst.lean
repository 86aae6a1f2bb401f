/- The walk of the document's putting of a list. -/
import Derived.Test.YtfdhaedpnjlpiaaRefPutTxt
import Derived.Test.YtfdhaedpnjlpiaaPutLst
import Derived.Test.YtfdhaedpnjlpiaaBRow
namespace Go.Proofs.Ytfdhaedpnjlpiaa
open Go.RowKit
set_option linter.unusedVariables false

theorem room_at (xs : List ByteArray) (j : Nat) (h : j < xs.length) : (xs.getD j ⟨#[]⟩).size ≤ room xs := by
  have := room_take xs j h; omega

set_option maxRecDepth 100000 in
set_option maxHeartbeats 800000 in
theorem ref_list_any (v : Value) (xs : List ByteArray) (w : World) (hv : Strs w v xs) (hr : room xs ≤ 10485760) (hxl : xs.length ≤ 140737488355328) :
    Calls Try.prog 21 #[v] w fun e w' => e = .returned (.string ⟨(pls xs).toArray⟩) ∧ Below w.heap.size w w' := by
  have hP := show Hid (pls xs = put xs.length ++ (xs.map ptx).flatten) from rfl
  have hpl := (put_len xs.length).2
  obtain ⟨ad, cap, rfl, hc⟩ := hv.at
  have HC := show Hid _ from hc
  have hrb : (10485770 : Nat) ≤ reachBytes := by decide
  clear hv hc
  generalize hn : xs.length = n at *
  have HN := show Hid _ from fun w => ref_number_any n w (by omega)
  have hpn : (ByteArray.mk (put n).toArray).data.toList = laidL n xs 0 := by simp [laidL]
  go_enter Try.func21, Try.ntmps21
  go_wp2_with fail
  refine (HN.out _).mono ?_
  rintro e w1 ⟨rfl, hB1⟩
  obtain ⟨b0, w2, hrow, hR, hB2⟩ := brow_made w1 ⟨(put n).toArray⟩
  rw [hpn] at hR
  have hB12 := hB1.trans (hB2.mono hB1.size)
  have hR0 : BRow w2 w.heap.size b0 (laidL n xs 0) := by
    obtain ⟨g, c, e1, e2, e3⟩ := hR
    exact ⟨g, c, e1, Nat.le_trans hB1.size e2, e3⟩
  clear hR hpn
  go_wp2
  clear hrow hB1 hB2
  go_loopw [3, 4] (fun l i wr => ∃ (j : Nat), j ≤ n ∧ i = .int .i64 j ∧ BRow wr w.heap.size l (laidL n xs j) ∧ Below w.heap.size w wr) (fun _ i _ => n - (intOf i).toNat)
  case atStart => exact ⟨0, by omega, rfl, hR0, hB12⟩
  case round =>
    clear hR0 hB12
    obtain ⟨j, hj, rfl, hown, hB⟩ := hrel
    have hbase := hB.size
    by_cases hlt : j < n
    · obtain ⟨b, off, rfl, hb, hcell⟩ := HC.out j (by omega)
      have hcw : wr.cell? ⟨b, off + j, none⟩ = some (.string (xs.getD j ⟨#[]⟩)) := (hB.cell (p := ⟨b, off + j, none⟩) hb).trans hcell
      have hrm := room_take xs j (by omega)
      have hll := laidL_len n xs j
      have HF := show Hid _ from laidL_step n xs j (by omega)
      generalize xs.getD j ⟨#[]⟩ = x at hcw hrm HF
      have hq : (j : Int) < (n : Int) := by omega
      have hxp := ptx_len x
      have hxq := (put_len x.size).2
      have HX := show Hid _ from fun w => ref_text_any x w (by omega)
      have hts : (ByteArray.mk (ptx x).toArray).size = (ptx x).length := by show (ptx x).toArray.size = _; simp
      have HTL := show Hid ((ByteArray.mk (ptx x).toArray).data.toList = ptx x) from by show _ = _; simp
      generalize ByteArray.mk (ptx x).toArray = t at HX hts HTL
      have hts2 : t.size ≤ x.size + 10 := by omega
      clear hts hxp hxq hcell HC
      have HO0 := show Hid _ from hown
      clear hown
      go_wp2_with (first
        | (go_at_call 17; refine (HX.out _).mono ?_; rintro e w3 ⟨rfl, hB3⟩; have hown3 := BRow.keeps HO0.out hB3; have hB4 := hB.trans (hB3.mono hbase); have hbase4 := hB4.size)
        | (at_builtin; refine wpList_brow _ rfl (.tmp 16) (.tmp 21) rfl w.heap.size _ (laidL n xs j) t rfl rfl hown3 hbase4 ?c1 ?_))
      case c1 => omega
      intro v' w5 hown5 hB5
      have HO : Hid (BRow w5 w.heap.size v' (laidL n xs (j + 1))) := by
        show BRow _ _ _ _
        rw [HF.out, ← HTL.out]; exact hown5
      have hB6 := hB4.trans hB5
      clear hown5 hB5 hown3 hB4 hB3 hB
      go_wp2
      go_roundw
      case rel => exact ⟨j + 1, by omega, by go_num, HO.out, hB6⟩
      case measure => simp [intOf]; omega
    · have hjn : j = n := by omega
      subst hjn
      have e : laidL j xs j = pls xs := by rw [laidL, hP.out, List.take_of_length_le (by omega)]
      rw [e] at hown
      have hcv := hown.text
      clear hown
      go_wp2
      go_ret
      exact ⟨rfl, hB⟩
end Go.Proofs.Ytfdhaedpnjlpiaa
