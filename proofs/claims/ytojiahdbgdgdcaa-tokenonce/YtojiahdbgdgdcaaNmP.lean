/- Which texts may be names: the program's own tests of bytes, one by one. -/
import Derived.Test.YtojiahdbgdgdcaaNmM
import Derived.Test.YtojiahdbgdgdcaaKeepM
import Derived.Test.YtojiahdbgdgdcaaHidM
import Derived.Shelf.Abstract
namespace Go.Proofs.Ytojiahdbgdgdcaa
open Go.RowKit Go.Shelf
set_option linter.unusedVariables false
set_option linter.unusedSimpArgs false

/-- a byte that may stand anywhere in a bucket's name -/
def inI (n : Nat) : Bool := (decide (97 ≤ n) && decide (n ≤ 122)) || (decide (48 ≤ n) && decide (n ≤ 57))
/-- a byte that may stand in a bucket's name -/
def inBk (n : Nat) : Bool := inI n || n == 46 || n == 45
def inKy (n : Nat) : Bool := n != 0
def inTk (n : Nat) : Bool := decide (33 ≤ n) && decide (n ≤ 126)
theorem retB {a b : Bool} (h : a = b) : Ending.returned (.bool a) = .returned (.bool b) := by rw [h]

theorem token1_any (n : Nat) (w : World) : Calls Try.prog 67 #[.int .u8 (n : Int)] w fun e w' => e = .returned (.bool (inTk n)) ∧ w' = w := by
  have HB : Hid (inTk n = (decide ((33 : Int) ≤ (n : Int)) && decide ((n : Int) ≤ 126))) := by show _ = _; unfold inTk; rw [Bool.eq_iff_iff]; simp; omega
  rw [HB.out]
  clear HB
  by_cases h1 : (33 : Int) ≤ (n : Int)
  · go_enter Try.func67, Try.ntmps67
    go_wp2
    go_ret
    exact ⟨retB (by simp [h1]), rfl⟩
  · have h2 : decide ((33 : Int) ≤ (n : Int)) = false := decide_eq_false h1
    go_enter Try.func67, Try.ntmps67
    go_wp2
    go_ret
    exact ⟨retB (by first | rfl | (rw [h2]; rfl)), rfl⟩
theorem allN_succ (G : Nat → Bool) (s : ByteArray) (k : Nat) (h : k < s.size) : (s.data.toList.take (k + 1)).all (fun c => G c.toNat) = ((s.data.toList.take k).all (fun c => G c.toNat) && G (s[k]).toNat) := by
  rw [List.take_succ_eq_append_getElem (by simpa using h), List.all_append]
  simp
  rfl
theorem notN_all (G : Nat → Bool) {s : ByteArray} {k : Nat} (h : k < s.size) (hc : G (s[k]).toNat = false) : s.data.toList.all (fun c => G c.toNat) = false := by
  rw [List.all_eq_false]
  exact ⟨s[k], by have : s[k] = s.data.toList[k]'(by simpa using h) := rfl; rw [this]; exact List.getElem_mem _, by rw [hc]; simp⟩
set_option maxRecDepth 100000 in
set_option maxHeartbeats 2000000 in
theorem allN_any (f : FuncId) (G : Nat → Bool) (s : ByteArray) (w : World) (hz : s.size ≤ 140737488355328) (hcf : ∀ xs W, (callFunc f xs).run Try.prog W = .ok (.enter f xs) W) (HF0 : ∀ (n : Nat) W, Calls Try.prog f #[.int .u8 (n : Int)] W fun e w' => e = .returned (.bool (G n)) ∧ w' = W) :
    Calls Try.prog 66 #[.string s, .func (.func f) #[] #[]] w fun e w' => e = .returned (.bool (s.data.toList.all fun c => G c.toNat)) ∧ w' = w := by
  have HI : Hid (∀ n : Nat, Calls Try.prog f #[.int .u8 (n : Int)] w fun e w' => e = .returned (.bool (G n)) ∧ w' = w) := fun n => HF0 n w
  clear HF0
  have HS0 : Hid ((s.data.toList.take 0).all (fun c => G c.toNat) = true) := rfl
  go_enter Try.func66, Try.ntmps66
  go_wp2
  go_loopw [8] (fun i wr => ∃ k : Nat, k ≤ s.size ∧ i = .int .i64 k ∧ wr = w ∧ Hid ((s.data.toList.take k).all (fun c => G c.toNat) = true)) (fun i _ => s.size - (intOf i).toNat)
  case atStart => exact ⟨0, by omega, rfl, rfl, HS0⟩
  case round =>
    clear HS0
    obtain ⟨k, hk, rfl, hwr, HA⟩ := hrel
    subst hwr
    by_cases hlt : k < s.size
    · have hk0 : (0 : Int) ≤ (k : Int) := by omega
      have hk1 : (k : Int) < (s.size : Int) := by omega
      have HT := show Hid _ from allN_succ G s k hlt
      have HN := show Hid _ from notN_all G (s := s) (k := k) hlt
      generalize hc : s[k] = c at HT HN
      cases hi : G c.toNat with
      | true =>
        have HI2 : Hid (Calls Try.prog f #[.int .u8 (c.toNat : Int)] wr fun e w' => e = .returned (.bool true) ∧ w' = wr) := by have := HI.out c.toNat; rw [hi] at this; exact this
        rw [hi, HA.out] at HT
        clear hi HN HA
        go_wp2_with fail
        refine HI2.out.mono ?_
        rintro e w1 ⟨rfl, rfl⟩
        go_wp2
        exact ⟨⟨k + 1, by omega, by go_num, by trivial, HT.out⟩, by simp [intOf]; omega⟩
      | false =>
        have HI2 : Hid (Calls Try.prog f #[.int .u8 (c.toNat : Int)] wr fun e w' => e = .returned (.bool false) ∧ w' = wr) := by have := HI.out c.toNat; rw [hi] at this; exact this
        have HF : Hid (false = s.data.toList.all fun c => G c.toNat) := (HN.out hi).symm
        clear hi HN HA HT
        go_wp2_with fail
        refine HI2.out.mono ?_
        rintro e w1 ⟨rfl, rfl⟩
        go_wp2
        go_ret
        exact ⟨retB HF.out, rfl⟩
    · have hd : decide ((k : Int) < (s.size : Int)) = false := decide_eq_false (by omega)
      have hks : k = s.size := by omega
      have HE : Hid (true = s.data.toList.all fun c => G c.toNat) := by
        have := HA.out
        rw [hks, List.take_of_length_le (by simp)] at this
        exact this.symm
      clear HA hks
      go_wp2
      go_ret
      exact ⟨retB HE.out, rfl⟩
theorem allT_any (s : ByteArray) (w : World) (hz : s.size ≤ 140737488355328) : Calls Try.prog 66 #[.string s, .func (.func 67) #[] #[]] w fun e w' => e = .returned (.bool (s.data.toList.all fun c => inTk c.toNat)) ∧ w' = w :=
  allN_any 67 inTk s w hz (enters_of Try.func67 (by kernel_rfl) rfl) token1_any
end Go.Proofs.Ytojiahdbgdgdcaa
