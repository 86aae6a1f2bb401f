/- The walks of the putting of a list, and of the comparison of two lists. -/
import Derived.Test.YtfdhaedpnjlpiabPutTxt
import Derived.Test.YtfdhaedpnjlpiabReadLst
import Derived.Deep.QuietTactic
import Derived.BigQuiet
namespace Go.Proofs.Ytfdhaedpnjlpiab
open Go.RowKit
set_option linter.unusedVariables false

/-- a list's bytes -/
def pls (xs : List ByteArray) : List UInt8 := put xs.length ++ (xs.map ptx).flatten
/-- how many bytes texts take at the most -/
def room (xs : List ByteArray) : Nat := (xs.map fun x => x.size + 10).sum

theorem flat_len (xs : List ByteArray) : ((xs.map ptx).flatten).length ≤ room xs := by
  induction xs with
  | nil => simp [room]
  | cons x r ih =>
    have h1 := ptx_len x
    have h2 := (put_len x.size).2
    simp only [room, List.map_cons, List.sum_cons, List.flatten_cons, List.length_append] at ih ⊢
    omega
theorem flat_take (xs : List ByteArray) (j : Nat) (h : j < xs.length) : ((xs.take (j + 1)).map ptx).flatten = ((xs.take j).map ptx).flatten ++ ptx (xs.getD j ⟨#[]⟩) := by
  rw [List.take_succ_eq_append_getElem h, List.map_append, List.flatten_append, List.getD_eq_getElem?_getD, List.getElem?_eq_getElem h]; simp
theorem room_take (xs : List ByteArray) (j : Nat) (h : j < xs.length) : room (xs.take j) + ((xs.getD j ⟨#[]⟩).size + 10) ≤ room xs := by
  have e : xs = xs.take j ++ xs.getD j ⟨#[]⟩ :: xs.drop (j + 1) := by
    conv => lhs; rw [← List.take_append_drop j xs, List.drop_eq_getElem_cons h]
    simp [h]
  have : room xs = room (xs.take j ++ xs.getD j ⟨#[]⟩ :: xs.drop (j + 1)) := by rw [← e]
  rw [this]
  simp only [room, List.map_append, List.map_cons, List.sum_append, List.sum_cons]
  omega

/-- what is laid behind j texts -/
def laidL (n : Nat) (xs : List ByteArray) (j : Nat) : List UInt8 := put n ++ ((xs.take j).map ptx).flatten
theorem laidL_len (n : Nat) (xs : List ByteArray) (j : Nat) : (laidL n xs j).length ≤ 10 + room (xs.take j) := by
  have h1 := (put_len n).2
  have h2 := flat_len (xs.take j)
  rw [laidL, List.length_append]; omega
theorem laidL_step (n : Nat) (xs : List ByteArray) (j : Nat) (h : j < xs.length) : laidL n xs (j + 1) = laidL n xs j ++ ptx (xs.getD j ⟨#[]⟩) := by
  rw [laidL, laidL, flat_take xs j h, List.append_assoc]

set_option maxRecDepth 100000 in
set_option maxHeartbeats 800000 in
theorem list_any (v : Value) (xs : List ByteArray) (w : World) (hv : Strs w v xs) (hr : room xs + 10 ≤ 140737488355328) (hxl : xs.length ≤ 140737488355328) :
    Calls Try.prog 15 #[v] w fun e w' => e = .returned (.string ⟨(pls xs).toArray⟩) ∧ Below w.heap.size w w' := by
  have hP := show Hid (pls xs = put xs.length ++ (xs.map ptx).flatten) from rfl
  have hpl := (put_len xs.length).2
  have hne : pls xs ≠ [] := by
    have h1 := (put_len xs.length).1
    intro h
    have h2 : (pls xs).length = 0 := by rw [h]; rfl
    rw [hP.out, List.length_append] at h2; omega
  obtain ⟨ad, cap, rfl, hc⟩ := hv.at
  have HC := show Hid _ from hc
  clear hv hc
  generalize hn : xs.length = n at *
  go_enter Try.func15, Try.ntmps15
  go_wp2_with fail
  refine (appendNumber_any w.heap.size 0 _ [] n _ (by omega) (by omega) (Nat.le_refl _) (World.ownsRow_nil _ _ _ _)).mono ?_
  rintro e w2 ⟨v2, rfl, hown, hB⟩
  have hown0 : w2.ownsRow w.heap.size 5 1 v2 (laidL n xs 0).length (bs (laidL n xs 0)) := by
    have e : laidL n xs 0 = put n := by simp [laidL]
    rw [e]; simpa using hown
  clear hown
  go_wp2
  go_loopw [3, 11] (fun l i wr => ∃ (j : Nat), j ≤ n ∧ i = .int .i64 j ∧ wr.ownsRow w.heap.size 5 1 l (laidL n xs j).length (bs (laidL n xs j)) ∧ Below w.heap.size w wr) (fun _ i _ => n - (intOf i).toNat)
  case atStart => exact ⟨0, by omega, rfl, hown0, hB⟩
  case round =>
    clear hown0 hB
    obtain ⟨j, hj, rfl, hown, hB⟩ := hrel
    have hbase := hB.size
    by_cases hlt : j < n
    · obtain ⟨b, off, rfl, hb, hcell⟩ := HC.out j (by omega)
      have hcw : wr.cell? ⟨b, off + j, none⟩ = some (.string (xs.getD j ⟨#[]⟩)) := (hB.cell (p := ⟨b, off + j, none⟩) hb).trans hcell
      have hrm := room_take xs j (by omega)
      have hll := laidL_len n xs j
      have HF := show Hid _ from laidL_step n xs j (by omega)
      generalize xs.getD j ⟨#[]⟩ = x at hcw hrm HF
      generalize laidL n xs j = Y at hown hll HF
      generalize room (xs.take j) = rj at hrm hll
      clear hcell HC
      go_wp2_with fail
      refine (appendText_any w.heap.size Y.length _ (bs Y) x _ (by omega) hbase hown).mono ?_
      rintro e w3 ⟨v3, rfl, hown3, hB3⟩
      have hB4 := hB.trans hB3
      have HO : Hid (w3.ownsRow w.heap.size 5 1 v3 (laidL n xs (j + 1)).length (bs (laidL n xs (j + 1)))) := by
        show World.ownsRow _ _ _ _ _ _ _
        rw [HF.out, bs_append, List.length_append]; exact hown3
      clear hown3 hB3 hown hB
      go_wp2
      go_roundw
      case rel => exact ⟨j + 1, by omega, by go_num, HO.out, hB4⟩
      case measure => simp [intOf]; omega
    · have hjn : j = n := by omega
      subst hjn
      have e : laidL j xs j = pls xs := by rw [laidL, hP.out, List.take_of_length_le (by omega)]
      rw [e] at hown
      have hcv := convert_owned hown hne
      clear hown
      go_wp2
      go_ret
      exact ⟨rfl, hB⟩
end Go.Proofs.Ytfdhaedpnjlpiab
