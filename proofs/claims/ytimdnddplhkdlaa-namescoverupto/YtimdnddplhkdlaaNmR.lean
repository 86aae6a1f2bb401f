/- Which texts may be names: the document's Bucket, Key and Token. -/
import Derived.Test.YtimdnddplhkdlaaNmQ
namespace Go.Proofs.Ytimdnddplhkdlaa
open Go.RowKit Go.Shelf
set_option linter.unusedVariables false
set_option linter.unusedSimpArgs false

set_option maxRecDepth 100000 in
set_option maxHeartbeats 2000000 in
theorem rkey_any (s : ByteArray) (w : World) (hz : s.size ≤ 140737488355328) : Calls Try.prog 12 #[.string s] w fun e w' => e = .returned (.bool (keyOk s.data.toList)) ∧ w' = w := by
  have hsz : s.data.toList.length = s.size := by simp
  have HS0 : Hid ((s.data.toList.take 0).all (fun c => inKy c.toNat) = true) := rfl
  go_enter Try.func12, Try.ntmps12
  go_wp2
  go_loopw [3] (fun i wr => ∃ k : Nat, k ≤ s.size ∧ i = .int .i64 k ∧ wr = w ∧ Hid ((s.data.toList.take k).all (fun c => inKy c.toNat) = true)) (fun i _ => s.size - (intOf i).toNat)
  case atStart => exact ⟨0, by omega, rfl, rfl, HS0⟩
  case round =>
    clear HS0
    obtain ⟨k, hk, rfl, hwr, HA⟩ := hrel
    subst hwr
    by_cases hlt : k < s.size
    · have hk0 : (0 : Int) ≤ (k : Int) := by omega
      have hk1 : (k : Int) < (s.size : Int) := by omega
      have HT := show Hid _ from allN_succ inKy s k hlt
      have HN := show Hid _ from notN_all inKy (s := s) (k := k) hlt
      generalize hc : s[k] = c at HT HN
      cases hi : inKy c.toNat with
      | true =>
        have hq : ((c.toNat : Int) == 0) = false := by unfold inKy at hi; rw [beq_eq_false_iff_ne]; have : ¬ c.toNat = 0 := by simpa using hi
                                                       omega
        rw [hi, HA.out] at HT
        clear hi HN HA hsz
        go_wp2
        exact ⟨⟨k + 1, by omega, by go_num, by trivial, HT.out⟩, by simp [intOf]; omega⟩
      | false =>
        have hq : ((c.toNat : Int) == 0) = true := by unfold inKy at hi; rw [beq_iff_eq]; have : c.toNat = 0 := by simpa using hi
                                                      omega
        have HF : Hid (false = keyOk s.data.toList) := by show _ = _; unfold keyOk; rw [HN.out hi]; simp
        clear hi HN HA HT hsz
        go_wp2
        go_ret
        exact ⟨retB HF.out, rfl⟩
    · have hd : decide ((k : Int) < (s.size : Int)) = false := decide_eq_false (by omega)
      have hks : k = s.size := by omega
      have HE : Hid (keyOk s.data.toList = (decide ((1 : Int) ≤ (s.size : Int)) && decide ((s.size : Int) ≤ 1024))) := by
        have := HA.out
        rw [hks, List.take_of_length_le (by simp)] at this
        show _ = _
        unfold keyOk
        rw [this, hsz, Bool.and_true, decide_eq_decide.2 (show 1 ≤ s.size ↔ (1 : Int) ≤ (s.size : Int) by omega), decide_eq_decide.2 (show s.size ≤ 1024 ↔ (s.size : Int) ≤ 1024 by omega)]
      clear HA hks hsz
      by_cases h1 : (1 : Int) ≤ (s.size : Int)
      · go_wp2
        go_ret
        exact ⟨retB (by rw [HE.out]; simp [h1]), rfl⟩
      · have h1d : decide ((1 : Int) ≤ (s.size : Int)) = false := decide_eq_false h1
        go_wp2
        go_ret
        exact ⟨retB (by rw [HE.out, h1d]; rfl), rfl⟩
set_option maxRecDepth 100000 in
set_option maxHeartbeats 2000000 in
theorem rtoken_any (s : ByteArray) (w : World) (hz : s.size ≤ 140737488355328) : Calls Try.prog 14 #[.string s] w fun e w' => e = .returned (.bool (tokOk s.data.toList)) ∧ w' = w := by
  have hsz : s.data.toList.length = s.size := by simp
  have HS0 : Hid ((s.data.toList.take 0).all (fun c => inTk c.toNat) = true) := rfl
  go_enter Try.func14, Try.ntmps14
  go_wp2
  go_loopw [3] (fun i wr => ∃ k : Nat, k ≤ s.size ∧ i = .int .i64 k ∧ wr = w ∧ Hid ((s.data.toList.take k).all (fun c => inTk c.toNat) = true)) (fun i _ => s.size - (intOf i).toNat)
  case atStart => exact ⟨0, by omega, rfl, rfl, HS0⟩
  case round =>
    clear HS0
    obtain ⟨k, hk, rfl, hwr, HA⟩ := hrel
    subst hwr
    by_cases hlt : k < s.size
    · have hk0 : (0 : Int) ≤ (k : Int) := by omega
      have hk1 : (k : Int) < (s.size : Int) := by omega
      have HT := show Hid _ from allN_succ inTk s k hlt
      have HN := show Hid _ from notN_all inTk (s := s) (k := k) hlt
      generalize hc : s[k] = c at HT HN
      by_cases c1 : (c.toNat : Int) < 33
      · have hi : inTk c.toNat = false := by unfold inTk; rw [decide_eq_false (by omega)]; rfl
        have HF : Hid (false = tokOk s.data.toList) := by show _ = _; unfold tokOk; rw [HN.out hi]; simp
        clear hi HN HA HT hsz
        go_wp2
        go_ret
        exact ⟨retB HF.out, rfl⟩
      · have c1d : decide ((c.toNat : Int) < 33) = false := decide_eq_false c1
        by_cases c2 : (126 : Int) < (c.toNat : Int)
        · have hi : inTk c.toNat = false := by unfold inTk; rw [decide_eq_false (show ¬ c.toNat ≤ 126 by omega), Bool.and_false]
          have HF : Hid (false = tokOk s.data.toList) := by show _ = _; unfold tokOk; rw [HN.out hi]; simp
          clear hi HN HA HT hsz c1
          go_wp2
          go_ret
          exact ⟨retB HF.out, rfl⟩
        · have c2d : decide ((126 : Int) < (c.toNat : Int)) = false := decide_eq_false c2
          have hi : inTk c.toNat = true := by unfold inTk; rw [decide_eq_true (show 33 ≤ c.toNat by omega), decide_eq_true (show c.toNat ≤ 126 by omega)]; rfl
          rw [hi, HA.out] at HT
          clear hi HN HA hsz c1 c2
          go_wp2
          exact ⟨⟨k + 1, by omega, by go_num, by trivial, HT.out⟩, by simp [intOf]; omega⟩
    · have hd : decide ((k : Int) < (s.size : Int)) = false := decide_eq_false (by omega)
      have hks : k = s.size := by omega
      have HE : Hid (tokOk s.data.toList = (decide ((1 : Int) ≤ (s.size : Int)) && decide ((s.size : Int) ≤ 64))) := by
        have := HA.out
        rw [hks, List.take_of_length_le (by simp)] at this
        show _ = _
        unfold tokOk
        rw [this, hsz, Bool.and_true, decide_eq_decide.2 (show 1 ≤ s.size ↔ (1 : Int) ≤ (s.size : Int) by omega), decide_eq_decide.2 (show s.size ≤ 64 ↔ (s.size : Int) ≤ 64 by omega)]
      clear HA hks hsz
      by_cases h1 : (1 : Int) ≤ (s.size : Int)
      · go_wp2
        go_ret
        exact ⟨retB (by rw [HE.out]; simp [h1]), rfl⟩
      · have h1d : decide ((1 : Int) ≤ (s.size : Int)) = false := decide_eq_false h1
        go_wp2
        go_ret
        exact ⟨retB (by rw [HE.out, h1d]; rfl), rfl⟩
theorem okAt_in {l : Bs} {i : Nat} (h : inI (l.getD i 0).toNat = true) : okAt l i = true := by unfold okAt; rw [h]; rfl
theorem okAt_out {l : Bs} {i : Nat} (h : inI (l.getD i 0).toNat = false) : okAt l i = (((l.getD i 0).toNat == 45 || (l.getD i 0).toNat == 46) && i != 0 && i + 1 != l.length && !((l.getD i 0).toNat == 46 && (l.getD (i - 1) 0).toNat == 46)) := by unfold okAt; rw [h]; rfl
theorem okR_succ {l : Bs} {k : Nat} (h : (List.range k).all (fun i => okAt l i) = true) (hk : okAt l k = true) : (List.range (k + 1)).all (fun i => okAt l i) = true := by
  rw [List.range_succ, List.all_append, h]
  simp [hk]
theorem okR_not {l : Bs} {k : Nat} (h : k < l.length) (hk : okAt l k = false) : bktOk l = false := by
  unfold bktOk
  have : (List.range l.length).all (fun i => okAt l i) = false := by
    rw [List.all_eq_false]
    exact ⟨k, by simpa using h, by rw [hk]; decide⟩
  rw [this, Bool.and_false]
set_option maxRecDepth 100000 in
set_option maxHeartbeats 4000000 in
theorem rbucket_any (s : ByteArray) (w : World) : Calls Try.prog 10 #[.string s] w fun e w' => e = .returned (.bool (bktOk s.data.toList)) ∧ w' = w := by
  have hsz : s.data.toList.length = s.size := by simp
  by_cases h3 : s.size < 3
  · have HE : Hid (bktOk s.data.toList = false) := by show _ = _; unfold bktOk; rw [hsz, decide_eq_false (by omega)]; rfl
    rw [HE.out]
    have h3' : (s.size : Int) < 3 := by omega
    clear HE hsz h3
    go_enter Try.func10, Try.ntmps10
    go_wp2
    go_ret
    exact ⟨rfl, rfl⟩
  by_cases h63 : 63 < s.size
  · have HE : Hid (bktOk s.data.toList = false) := by show _ = _; unfold bktOk; rw [hsz, decide_eq_false (by omega)]; rfl
    rw [HE.out]
    have h3' : decide ((s.size : Int) < 3) = false := decide_eq_false (by omega)
    have h63' : (63 : Int) < (s.size : Int) := by omega
    clear HE hsz h3 h63
    go_enter Try.func10, Try.ntmps10
    go_wp2
    go_ret
    exact ⟨rfl, rfl⟩
  have h3' : decide ((s.size : Int) < 3) = false := decide_eq_false (by omega)
  have h63' : decide ((63 : Int) < (s.size : Int)) = false := decide_eq_false (by omega)
  have HS0 : Hid ((List.range 0).all (fun i => okAt s.data.toList i) = true) := rfl
  have HZ : Hid (3 ≤ s.size ∧ s.size ≤ 63) := ⟨by omega, by omega⟩
  have hzz : s.size ≤ 140737488355328 := by omega
  have HL := hid hsz
  have hw1 : wrap64 ((s.size : Int) - 1) = (s.size : Int) - 1 := by unfold wrap64; omega
  clear hsz h3 h63
  go_enter Try.func10, Try.ntmps10
  go_wp2
  go_loopw [4] (fun i wr => ∃ k : Nat, k ≤ s.size ∧ i = .int .i64 k ∧ wr = w ∧ Hid ((List.range k).all (fun i => okAt s.data.toList i) = true)) (fun i _ => s.size - (intOf i).toNat)
  case atStart => exact ⟨0, by omega, rfl, rfl, HS0⟩
  case round =>
    clear HS0
    obtain ⟨k, hk, rfl, hwr, HA⟩ := hrel
    subst hwr
    by_cases hlt : k < s.size
    · have hk0 : (0 : Int) ≤ (k : Int) := by omega
      have hk1 : (k : Int) < (s.size : Int) := by omega
      have HG := hid (at_getD s k hlt)
      have HS := hid (fun h => okR_succ (k := k) HA.out h)
      have HN := hid (fun h => okR_not (l := s.data.toList) (k := k) (by rw [HL.out]; exact hlt) h)
      have HI := hid (fun h => okAt_in (l := s.data.toList) (i := k) h)
      have HO := hid (fun h => okAt_out (l := s.data.toList) (i := k) h)
      have hzb := HZ.out
      have HP : Hid (∀ h : k ≠ 0, s[k - 1]'(by omega) = s.data.toList.getD (k - 1) 0) := fun h => at_getD s (k - 1) (by omega)
      rw [HL.out] at HO
      generalize okAt s.data.toList k = b at *
      rw [← HG.out] at HI HO
      have hkw : k ≠ 0 → wrap64 ((k : Int) - 1) = ((k - 1 : Nat) : Int) := fun h => by unfold wrap64; omega
      generalize hc : s[k] = c at *
      cases hin : inI c.toNat with
      | true =>
        have hb := HI.out hin
        have HT := hid (HS.out hb)
        clear HA HG HS HN HI HO HP hb hkw hzb
        have HIN : Hid (97 ≤ c.toNat ∧ c.toNat ≤ 122 ∨ 48 ≤ c.toNat ∧ c.toNat ≤ 57) := by
          unfold inI at hin
          have : (97 ≤ c.toNat ∧ c.toNat ≤ 122) ∨ (48 ≤ c.toNat ∧ c.toNat ≤ 57) := by simpa using hin
          exact this
        clear hin
        by_cases c1 : (97 : Int) ≤ (c.toNat : Int)
        · by_cases c2 : (c.toNat : Int) ≤ 122
          · clear HIN
            go_wp2
            exact ⟨⟨k + 1, by omega, by go_num, by trivial, HT.out⟩, by simp [intOf]; omega⟩
          · exfalso; have := HIN.out; omega
        · have c1d : decide ((97 : Int) ≤ (c.toNat : Int)) = false := decide_eq_false c1
          have c3 : (48 : Int) ≤ (c.toNat : Int) := by have := HIN.out; omega
          have c4 : (c.toNat : Int) ≤ 57 := by have := HIN.out; omega
          clear HIN c1
          go_wp2
          exact ⟨⟨k + 1, by omega, by go_num, by trivial, HT.out⟩, by simp [intOf]; omega⟩
      | false =>
        have hb := HO.out hin
        have HIN : Hid (¬ (97 ≤ c.toNat ∧ c.toNat ≤ 122) ∧ ¬ (48 ≤ c.toNat ∧ c.toNat ≤ 57)) := by
          unfold inI at hin
          refine ⟨fun h => ?_, fun h => ?_⟩
          · rw [decide_eq_true h.1, decide_eq_true h.2] at hin; cases hin
          · rw [decide_eq_true h.1, decide_eq_true h.2] at hin; simp at hin
        clear HI HO hin HG
        have HB := hid hb
        clear hb
        by_cases d45 : c.toNat = 45
        · have c1d : decide ((97 : Int) ≤ (c.toNat : Int)) = false := decide_eq_false (by omega)
          have c3d : decide ((48 : Int) ≤ (c.toNat : Int)) = false := decide_eq_false (by omega)
          have n45 : ((c.toNat : Int) != 45) = false := by simp; omega
          have n46 : ((c.toNat : Int) != 46) = true := by simp; omega
          have e46 : ((c.toNat : Int) == 46) = false := by rw [beq_eq_false_iff_ne]; omega
          by_cases k0 : k = 0
          · have k0d : ((k : Int) == 0) = true := by rw [beq_iff_eq]; omega
            have HF : Hid (false = bktOk s.data.toList) := (HN.out (by rw [HB.out]; simp [k0])).symm
            clear HA HS HN HP HB HIN hzb
            try clear p46
            try clear k1
            try clear k0
            try clear d45
            try clear d46
            go_wp2
            go_ret
            exact ⟨retB HF.out, rfl⟩
          have k0d : ((k : Int) == 0) = false := by rw [beq_eq_false_iff_ne]; omega
          by_cases k1 : k + 1 = s.size
          · have k1d : ((k : Int) == (s.size : Int) - 1) = true := by rw [beq_iff_eq]; omega
            have HF : Hid (false = bktOk s.data.toList) := (HN.out (by rw [HB.out]; simp [k1])).symm
            clear HA HS HN HP HB HIN hzb
            try clear p46
            try clear k1
            try clear k0
            try clear d45
            try clear d46
            go_wp2
            go_ret
            exact ⟨retB HF.out, rfl⟩
          have k1d : ((k : Int) == (s.size : Int) - 1) = false := by rw [beq_eq_false_iff_ne]; omega
          have HT := hid (HS.out (by rw [HB.out]; simp [d45, k0, k1]))
          clear HA HS HN HP HB HIN hzb
          try clear p46
          try clear k1
          try clear k0
          try clear d45
          try clear d46
          go_wp2
          exact ⟨⟨k + 1, by omega, by go_num, by trivial, HT.out⟩, by simp [intOf]; omega⟩
        by_cases d46 : c.toNat = 46
        · have c1d : decide ((97 : Int) ≤ (c.toNat : Int)) = false := decide_eq_false (by omega)
          have c3d : decide ((48 : Int) ≤ (c.toNat : Int)) = false := decide_eq_false (by omega)
          have n45 : ((c.toNat : Int) != 45) = true := by simp; omega
          have n46 : ((c.toNat : Int) != 46) = false := by simp; omega
          have e46 : ((c.toNat : Int) == 46) = true := by rw [beq_iff_eq]; omega
          by_cases k0 : k = 0
          · have k0d : ((k : Int) == 0) = true := by rw [beq_iff_eq]; omega
            have HF : Hid (false = bktOk s.data.toList) := (HN.out (by rw [HB.out]; simp [k0])).symm
            clear HA HS HN HP HB HIN hzb
            try clear p46
            try clear k1
            try clear k0
            try clear d45
            try clear d46
            go_wp2
            go_ret
            exact ⟨retB HF.out, rfl⟩
          have k0d : ((k : Int) == 0) = false := by rw [beq_eq_false_iff_ne]; omega
          by_cases k1 : k + 1 = s.size
          · have k1d : ((k : Int) == (s.size : Int) - 1) = true := by rw [beq_iff_eq]; omega
            have HF : Hid (false = bktOk s.data.toList) := (HN.out (by rw [HB.out]; simp [k1])).symm
            clear HA HS HN HP HB HIN hzb
            try clear p46
            try clear k1
            try clear k0
            try clear d45
            try clear d46
            go_wp2
            go_ret
            exact ⟨retB HF.out, rfl⟩
          have k1d : ((k : Int) == (s.size : Int) - 1) = false := by rw [beq_eq_false_iff_ne]; omega
          have h11 : (1 : Int) ≤ (k : Int) := by omega
          have h12 : (k : Int) - 1 < (s.size : Int) := by omega
          have h13 : (0 : Int) ≤ (k : Int) - 1 := by omega
          have hpl : k - 1 < s.size := by omega
          rw [← at_getD s (k - 1) hpl] at HB
          clear HP hkw
          by_cases p46 : (s[k - 1]'hpl).toNat = 46
          · have p46d : (((s[k - 1]'hpl).toNat : Int) == 46) = true := by rw [beq_iff_eq]; omega
            have HF : Hid (false = bktOk s.data.toList) := (HN.out (by rw [HB.out]; simp [d46, p46])).symm
            clear HA HS HN HB HIN hzb
            try clear p46
            try clear k1
            try clear k0
            try clear d45
            try clear d46
            go_wp2
            go_ret
            exact ⟨retB HF.out, rfl⟩
          · have p46d : (((s[k - 1]'hpl).toNat : Int) == 46) = false := by rw [beq_eq_false_iff_ne]; omega
            have HT := hid (HS.out (by rw [HB.out]; simp [d46, p46, k0, k1]))
            clear HA HS HN HB HIN hzb
            try clear p46
            try clear k1
            try clear k0
            try clear d45
            try clear d46
            go_wp2
            exact ⟨⟨k + 1, by omega, by go_num, by trivial, HT.out⟩, by simp [intOf]; omega⟩
        have n45 : ((c.toNat : Int) != 45) = true := by simp; omega
        have n46 : ((c.toNat : Int) != 46) = true := by simp; omega
        have HF : Hid (false = bktOk s.data.toList) := (HN.out (by rw [HB.out]; simp [d45, d46])).symm
        by_cases z97 : 97 ≤ c.toNat
        · have c1 : (97 : Int) ≤ (c.toNat : Int) := by omega
          have c2d : decide ((c.toNat : Int) ≤ 122) = false := decide_eq_false (by have := HIN.out; omega)
          have c3 : (48 : Int) ≤ (c.toNat : Int) := by omega
          have c4d : decide ((c.toNat : Int) ≤ 57) = false := decide_eq_false (by have := HIN.out; omega)
          clear HA HS HN HP HB HIN hzb
          try clear p46
          try clear k1
          try clear k0
          try clear d45
          try clear d46
          go_wp2
          go_ret
          exact ⟨retB HF.out, rfl⟩
        by_cases z48 : 48 ≤ c.toNat
        · have c1d : decide ((97 : Int) ≤ (c.toNat : Int)) = false := decide_eq_false (by omega)
          have c3 : (48 : Int) ≤ (c.toNat : Int) := by omega
          have c4d : decide ((c.toNat : Int) ≤ 57) = false := decide_eq_false (by have := HIN.out; omega)
          clear HA HS HN HP HB HIN hzb
          try clear p46
          try clear k1
          try clear k0
          try clear d45
          try clear d46
          go_wp2
          go_ret
          exact ⟨retB HF.out, rfl⟩
        have c1d : decide ((97 : Int) ≤ (c.toNat : Int)) = false := decide_eq_false (by omega)
        have c3d : decide ((48 : Int) ≤ (c.toNat : Int)) = false := decide_eq_false (by omega)
        clear HA HS HN HP HB HIN hzb
        try clear p46
        try clear k1
        try clear k0
        try clear d45
        try clear d46
        go_wp2
        go_ret
        exact ⟨retB HF.out, rfl⟩
    · have hd : decide ((k : Int) < (s.size : Int)) = false := decide_eq_false (by omega)
      have hks : k = s.size := by omega
      have HE : Hid (true = bktOk s.data.toList) := by
        have := HA.out
        show _ = _
        unfold bktOk
        rw [HL.out, ← hks, this, decide_eq_true (by have := HZ.out; omega)]
        rfl
      clear HA hks
      go_wp2
      go_ret
      exact ⟨retB HE.out, rfl⟩
end Go.Proofs.Ytimdnddplhkdlaa
