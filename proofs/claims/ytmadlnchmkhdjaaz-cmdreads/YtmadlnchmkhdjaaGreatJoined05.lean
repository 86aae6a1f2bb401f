/- Joined: Which texts may be names: the program's own tests of bytes, one by one. Which texts may be tokens: both sides. -/
import Derived.Test.YtmadlnchmkhdjaaGreatNmM
import Derived.Test.YtmadlnchmkhdjaaGreatKeepM
import Derived.Test.YtmadlnchmkhdjaaGreatJoined01
import Derived.Shelf.Abstract
namespace Go.Proofs.YtmadlnchmkhdjaaGreat
open Go.RowKit Go.Shelf
set_option linter.unusedVariables false
set_option linter.unusedSimpArgs false

/-- a byte that may stand anywhere in a bucket's name -/
def inI (n : Nat) : Bool := (decide (97 ≤ n) && decide (n ≤ 122)) || (decide (48 ≤ n) && decide (n ≤ 57))
/-- a byte that may stand in a bucket's name -/
def inBk (n : Nat) : Bool := inI n || n == 46 || n == 45
def inKy (n : Nat) : Bool := n != 0
def inTk (n : Nat) : Bool := decide (33 ≤ n) && decide (n ≤ 126)
theorem retB {a b : Bool} (h : a = b) : Ending.returned (.bool a) = .returned (.bool b) := by rw [h]

set_option maxRecDepth 100000 in
set_option maxHeartbeats 2000000 in
theorem isInner_any (n : Nat) (w : World) : Calls Tryz.prog 105 #[.int .u8 (n : Int)] w fun e w' => e = .returned (.bool (inI n)) ∧ w' = w := by
  unfold inI
  by_cases h1 : (97 : Int) ≤ (n : Int) <;> by_cases h2 : (n : Int) ≤ 122 <;> by_cases h3 : (48 : Int) ≤ (n : Int) <;> by_cases h4 : (n : Int) ≤ 57
  all_goals first | (exfalso; omega) | skip
  all_goals
    have e1 : decide (97 ≤ n) = decide ((97 : Int) ≤ (n : Int)) := decide_eq_decide.2 (by omega)
    have e2 : decide (n ≤ 122) = decide ((n : Int) ≤ 122) := decide_eq_decide.2 (by omega)
    have e3 : decide (48 ≤ n) = decide ((48 : Int) ≤ (n : Int)) := decide_eq_decide.2 (by omega)
    have e4 : decide (n ≤ 57) = decide ((n : Int) ≤ 57) := decide_eq_decide.2 (by omega)
    have HE : Hid ((decide (97 ≤ n) && decide (n ≤ 122) || decide (48 ≤ n) && decide (n ≤ 57)) = (decide ((97 : Int) ≤ (n : Int)) && decide ((n : Int) ≤ 122) || decide ((48 : Int) ≤ (n : Int)) && decide ((n : Int) ≤ 57))) := by show _ = _; rw [e1, e2, e3, e4]
    clear e1 e2 e3 e4
    rw [HE.out]
    clear HE
    go_enter Tryz.func105, Tryz.ntmps105
    go_wp2
    go_ret
    refine ⟨retB ?_, rfl⟩
    first | rfl | simp [h1, h2, h3, h4] | (rw [Bool.eq_iff_iff]; simp; omega)
set_option maxRecDepth 100000 in
set_option maxHeartbeats 1000000 in
theorem bucket1_any (n : Nat) (w : World) : Calls Tryz.prog 107 #[.int .u8 (n : Int)] w fun e w' => e = .returned (.bool (inBk n)) ∧ w' = w := by
  have HI := hid (isInner_any n w)
  have e5 : (n == 46) = ((n : Int) == 46) := by rw [Bool.eq_iff_iff]; simp; omega
  have e6 : (n == 45) = ((n : Int) == 45) := by rw [Bool.eq_iff_iff]; simp; omega
  have HB : Hid (inBk n = (inI n || (n : Int) == 46 || (n : Int) == 45)) := by show _ = _; unfold inBk; rw [e5, e6]
  rw [HB.out]
  clear HB e5 e6
  generalize inI n = b at *
  obtain hb | hb : b = false ∨ b = true := by cases b <;> simp
  · subst hb
    by_cases h5 : (n : Int) = 46
    · have h5b : ((n : Int) == 46) = true := by rw [beq_iff_eq]; exact h5
      rw [h5b]
      clear h5
      go_enter Tryz.func107, Tryz.ntmps107
      go_wp2_with fail
      refine HI.out.mono ?_
      rintro e w1 ⟨rfl, rfl⟩
      go_wp2
      go_ret
      exact ⟨rfl, rfl⟩
    · have h5b : ((n : Int) == 46) = false := by rw [beq_eq_false_iff_ne]; exact h5
      rw [h5b]
      generalize hq : ((n : Int) == 45) = q
      go_enter Tryz.func107, Tryz.ntmps107
      go_wp2_with fail
      refine HI.out.mono ?_
      rintro e w1 ⟨rfl, rfl⟩
      go_wp2
      go_ret
      exact ⟨retB (by simp [hq]), rfl⟩
  · subst hb
    go_enter Tryz.func107, Tryz.ntmps107
    go_wp2_with fail
    refine HI.out.mono ?_
    rintro e w1 ⟨rfl, rfl⟩
    go_wp2
    go_ret
    exact ⟨rfl, rfl⟩
theorem key1_any (n : Nat) (w : World) : Calls Tryz.prog 108 #[.int .u8 (n : Int)] w fun e w' => e = .returned (.bool (inKy n)) ∧ w' = w := by
  have HB : Hid (inKy n = ((n : Int) != 0)) := by show _ = _; unfold inKy; rw [Bool.eq_iff_iff]; simp
  rw [HB.out]
  clear HB
  go_enter Tryz.func108, Tryz.ntmps108
  go_wp2
  go_ret
  exact ⟨rfl, rfl⟩
theorem token1_any (n : Nat) (w : World) : Calls Tryz.prog 104 #[.int .u8 (n : Int)] w fun e w' => e = .returned (.bool (inTk n)) ∧ w' = w := by
  have HB : Hid (inTk n = (decide ((33 : Int) ≤ (n : Int)) && decide ((n : Int) ≤ 126))) := by show _ = _; unfold inTk; rw [Bool.eq_iff_iff]; simp; omega
  rw [HB.out]
  clear HB
  by_cases h1 : (33 : Int) ≤ (n : Int)
  · go_enter Tryz.func104, Tryz.ntmps104
    go_wp2
    go_ret
    exact ⟨retB (by simp [h1]), rfl⟩
  · have h2 : decide ((33 : Int) ≤ (n : Int)) = false := decide_eq_false h1
    go_enter Tryz.func104, Tryz.ntmps104
    go_wp2
    go_ret
    exact ⟨retB (by first | rfl | (rw [h2]; rfl)), rfl⟩
theorem allN_succ (G : Nat → Bool) (s : ByteArray) (k : Nat) (h : k < s.size) : (s.data.toList.take (k + 1)).all (fun c => G c.toNat) = ((s.data.toList.take k).all (fun c => G c.toNat) && G (s[k]).toNat) := by
  rw [List.take_succ_eq_append_getElem (by simpa using h), List.all_append]
  simp
  rfl
theorem notN_all (G : Nat → Bool) {s : ByteArray} {k : Nat} (h : k < s.size) (hc : G (s[k]).toNat = false) : s.data.toList.all (fun c => G c.toNat) = false := by
  rw [List.all_eq_false]
  exact ⟨s[k], by have : s[k] = s.data.toList[k]'(by simpa using h) := rfl; rw [this]; exact List.getElem_mem _, by rw [hc]; simp⟩
set_option maxRecDepth 100000 in
set_option maxHeartbeats 2000000 in
theorem allN_any (f : FuncId) (G : Nat → Bool) (s : ByteArray) (w : World) (hz : s.size ≤ 140737488355328) (hcf : ∀ xs W, (callFunc f xs).run Tryz.prog W = .ok (.enter f xs) W) (HF0 : ∀ (n : Nat) W, Calls Tryz.prog f #[.int .u8 (n : Int)] W fun e w' => e = .returned (.bool (G n)) ∧ w' = W) :
    Calls Tryz.prog 103 #[.string s, .func (.func f) #[] #[]] w fun e w' => e = .returned (.bool (s.data.toList.all fun c => G c.toNat)) ∧ w' = w := by
  have HI : Hid (∀ n : Nat, Calls Tryz.prog f #[.int .u8 (n : Int)] w fun e w' => e = .returned (.bool (G n)) ∧ w' = w) := fun n => HF0 n w
  clear HF0
  have HS0 : Hid ((s.data.toList.take 0).all (fun c => G c.toNat) = true) := rfl
  go_enter Tryz.func103, Tryz.ntmps103
  go_wp2
  go_loopw [8] (fun i wr => ∃ k : Nat, k ≤ s.size ∧ i = .int .i64 k ∧ wr = w ∧ Hid ((s.data.toList.take k).all (fun c => G c.toNat) = true)) (fun i _ => s.size - (intOf i).toNat)
  case atStart => exact ⟨0, by omega, rfl, rfl, HS0⟩
  case round =>
    clear HS0
    obtain ⟨k, hk, rfl, hwr, HA⟩ := hrel
    subst hwr
    by_cases hlt : k < s.size
    · have hk0 : (0 : Int) ≤ (k : Int) := by omega
      have hk1 : (k : Int) < (s.size : Int) := by omega
      have HT := show Hid _ from allN_succ G s k hlt
      have HN := show Hid _ from notN_all G (s := s) (k := k) hlt
      generalize hc : s[k] = c at HT HN
      cases hi : G c.toNat with
      | true =>
        have HI2 : Hid (Calls Tryz.prog f #[.int .u8 (c.toNat : Int)] wr fun e w' => e = .returned (.bool true) ∧ w' = wr) := by have := HI.out c.toNat; rw [hi] at this; exact this
        rw [hi, HA.out] at HT
        clear hi HN HA
        go_wp2_with fail
        refine HI2.out.mono ?_
        rintro e w1 ⟨rfl, rfl⟩
        go_wp2
        exact ⟨⟨k + 1, by omega, by go_num, by trivial, HT.out⟩, by simp [intOf]; omega⟩
      | false =>
        have HI2 : Hid (Calls Tryz.prog f #[.int .u8 (c.toNat : Int)] wr fun e w' => e = .returned (.bool false) ∧ w' = wr) := by have := HI.out c.toNat; rw [hi] at this; exact this
        have HF : Hid (false = s.data.toList.all fun c => G c.toNat) := (HN.out hi).symm
        clear hi HN HA HT
        go_wp2_with fail
        refine HI2.out.mono ?_
        rintro e w1 ⟨rfl, rfl⟩
        go_wp2
        go_ret
        exact ⟨retB HF.out, rfl⟩
    · have hd : decide ((k : Int) < (s.size : Int)) = false := decide_eq_false (by omega)
      have hks : k = s.size := by omega
      have HE : Hid (true = s.data.toList.all fun c => G c.toNat) := by
        have := HA.out
        rw [hks, List.take_of_length_le (by simp)] at this
        exact this.symm
      clear HA hks
      go_wp2
      go_ret
      exact ⟨retB HE.out, rfl⟩
theorem allB_any (s : ByteArray) (w : World) (hz : s.size ≤ 140737488355328) : Calls Tryz.prog 103 #[.string s, .func (.func 107) #[] #[]] w fun e w' => e = .returned (.bool (s.data.toList.all fun c => inBk c.toNat)) ∧ w' = w :=
  allN_any 107 inBk s w hz (enters_of Tryz.func107 (by kernel_rfl) rfl) bucket1_any
theorem allK_any (s : ByteArray) (w : World) (hz : s.size ≤ 140737488355328) : Calls Tryz.prog 103 #[.string s, .func (.func 108) #[] #[]] w fun e w' => e = .returned (.bool (s.data.toList.all fun c => inKy c.toNat)) ∧ w' = w :=
  allN_any 108 inKy s w hz (enters_of Tryz.func108 (by kernel_rfl) rfl) key1_any
theorem allT_any (s : ByteArray) (w : World) (hz : s.size ≤ 140737488355328) : Calls Tryz.prog 103 #[.string s, .func (.func 104) #[] #[]] w fun e w' => e = .returned (.bool (s.data.toList.all fun c => inTk c.toNat)) ∧ w' = w :=
  allN_any 104 inTk s w hz (enters_of Tryz.func104 (by kernel_rfl) rfl) token1_any
end Go.Proofs.YtmadlnchmkhdjaaGreat
namespace Go.Proofs.YtmadlnchmkhdjaaGreat
open Go.RowKit Go.Shelf
set_option linter.unusedVariables false
set_option linter.unusedSimpArgs false

def tokOk (l : Bs) : Bool := decide (1 ≤ l.length) && decide (l.length ≤ 64) && l.all fun c => inTk c.toNat
set_option maxRecDepth 100000 in
set_option maxHeartbeats 1000000 in
theorem ptoken_any (s : ByteArray) (w : World) : Calls Tryz.prog 68 #[.string s] w fun e w' => e = .returned (.bool (tokOk s.data.toList)) ∧ w' = w := by
  have hsz : s.data.toList.length = s.size := by simp
  by_cases h1 : s.size ≤ 64
  · have HK := hid (allT_any s w (by omega))
    by_cases h0 : 1 ≤ s.size
    · have HE : Hid (tokOk s.data.toList = s.data.toList.all fun c => inTk c.toNat) := by show _ = _; unfold tokOk; rw [hsz]; simp [h0, h1]
      rw [HE.out]
      generalize (s.data.toList.all fun c => inTk c.toNat) = b at *
      have h0' : (1 : Int) ≤ (s.size : Int) := by omega
      have h1' : (s.size : Int) ≤ 64 := by omega
      clear HE hsz
      go_enter Tryz.func68, Tryz.ntmps68
      go_wp2_with fail
      refine HK.out.mono ?_
      rintro e w1 ⟨rfl, rfl⟩
      go_wp2
      go_ret
      exact ⟨rfl, rfl⟩
    · have HE : Hid (tokOk s.data.toList = false) := by show _ = _; unfold tokOk; rw [hsz]; simp [h0]
      rw [HE.out]
      have h0' : ¬ (1 : Int) ≤ (s.size : Int) := by omega
      have h0d : decide ((1 : Int) ≤ (s.size : Int)) = false := decide_eq_false h0'
      clear HE hsz HK h1 h0
      go_enter Tryz.func68, Tryz.ntmps68
      go_wp2
      go_ret
      exact ⟨rfl, rfl⟩
  · have HE : Hid (tokOk s.data.toList = false) := by show _ = _; unfold tokOk; rw [hsz]; simp [h1]
    rw [HE.out]
    have h0' : (1 : Int) ≤ (s.size : Int) := by omega
    have h1' : ¬ (s.size : Int) ≤ 64 := by omega
    have h1d : decide ((s.size : Int) ≤ 64) = false := decide_eq_false h1'
    clear HE hsz h1
    go_enter Tryz.func68, Tryz.ntmps68
    go_wp2
    go_ret
    exact ⟨rfl, rfl⟩
set_option maxRecDepth 100000 in
set_option maxHeartbeats 2000000 in
theorem rtoken_any (s : ByteArray) (w : World) (hz : s.size ≤ 140737488355328) : Calls Tryz.prog 33 #[.string s] w fun e w' => e = .returned (.bool (tokOk s.data.toList)) ∧ w' = w := by
  have hsz : s.data.toList.length = s.size := by simp
  have HS0 : Hid ((s.data.toList.take 0).all (fun c => inTk c.toNat) = true) := rfl
  go_enter Tryz.func33, Tryz.ntmps33
  go_wp2
  go_loopw [3] (fun i wr => ∃ k : Nat, k ≤ s.size ∧ i = .int .i64 k ∧ wr = w ∧ Hid ((s.data.toList.take k).all (fun c => inTk c.toNat) = true)) (fun i _ => s.size - (intOf i).toNat)
  case atStart => exact ⟨0, by omega, rfl, rfl, HS0⟩
  case round =>
    clear HS0
    obtain ⟨k, hk, rfl, hwr, HA⟩ := hrel
    subst hwr
    by_cases hlt : k < s.size
    · have hk0 : (0 : Int) ≤ (k : Int) := by omega
      have hk1 : (k : Int) < (s.size : Int) := by omega
      have HT := show Hid _ from allN_succ inTk s k hlt
      have HN := show Hid _ from notN_all inTk (s := s) (k := k) hlt
      generalize hc : s[k] = c at HT HN
      by_cases c1 : (c.toNat : Int) < 33
      · have hi : inTk c.toNat = false := by unfold inTk; rw [decide_eq_false (by omega)]; rfl
        have HF : Hid (false = tokOk s.data.toList) := by show _ = _; unfold tokOk; rw [HN.out hi]; simp
        clear hi HN HA HT hsz
        go_wp2
        go_ret
        exact ⟨retB HF.out, rfl⟩
      · have c1d : decide ((c.toNat : Int) < 33) = false := decide_eq_false c1
        by_cases c2 : (126 : Int) < (c.toNat : Int)
        · have hi : inTk c.toNat = false := by unfold inTk; rw [decide_eq_false (show ¬ c.toNat ≤ 126 by omega), Bool.and_false]
          have HF : Hid (false = tokOk s.data.toList) := by show _ = _; unfold tokOk; rw [HN.out hi]; simp
          clear hi HN HA HT hsz c1
          go_wp2
          go_ret
          exact ⟨retB HF.out, rfl⟩
        · have c2d : decide ((126 : Int) < (c.toNat : Int)) = false := decide_eq_false c2
          have hi : inTk c.toNat = true := by unfold inTk; rw [decide_eq_true (show 33 ≤ c.toNat by omega), decide_eq_true (show c.toNat ≤ 126 by omega)]; rfl
          rw [hi, HA.out] at HT
          clear hi HN HA hsz c1 c2
          go_wp2
          exact ⟨⟨k + 1, by omega, by go_num, by trivial, HT.out⟩, by simp [intOf]; omega⟩
    · have hd : decide ((k : Int) < (s.size : Int)) = false := decide_eq_false (by omega)
      have hks : k = s.size := by omega
      have HE : Hid (tokOk s.data.toList = (decide ((1 : Int) ≤ (s.size : Int)) && decide ((s.size : Int) ≤ 64))) := by
        have := HA.out
        rw [hks, List.take_of_length_le (by simp)] at this
        show _ = _
        unfold tokOk
        rw [this, hsz, Bool.and_true, decide_eq_decide.2 (show 1 ≤ s.size ↔ (1 : Int) ≤ (s.size : Int) by omega), decide_eq_decide.2 (show s.size ≤ 64 ↔ (s.size : Int) ≤ 64 by omega)]
      clear HA hks hsz
      by_cases h1 : (1 : Int) ≤ (s.size : Int)
      · go_wp2
        go_ret
        exact ⟨retB (by rw [HE.out]; simp [h1]), rfl⟩
      · have h1d : decide ((1 : Int) ≤ (s.size : Int)) = false := decide_eq_false h1
        go_wp2
        go_ret
        exact ⟨retB (by rw [HE.out, h1d]; rfl), rfl⟩
end Go.Proofs.YtmadlnchmkhdjaaGreat
