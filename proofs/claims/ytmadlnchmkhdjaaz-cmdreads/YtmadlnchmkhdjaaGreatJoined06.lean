/- Joined: Which texts may be names: the program's Bucket, Key and Token. Which texts may be names: the document's Bucket, Key and Token. -/
import Derived.Test.YtmadlnchmkhdjaaGreatJoined05
import Derived.Test.YtmadlnchmkhdjaaGreatLayS
import Derived.BigQuiet
import Derived.Deep.RegionHeld3
namespace Go.Proofs.YtmadlnchmkhdjaaGreat
open Go.RowKit Go.Shelf
set_option linter.unusedVariables false
set_option linter.unusedSimpArgs false

/-- the variable of the library's that is read holds a number -/
def MaxL (w : World) : Prop := ∃ m, w.cell? ⟨0, 0, none⟩ = some (.int .i64 m)
theorem MaxL.keep {w w' : World} (h : MaxL w) (k : Keep (fun _ => False) w w') : MaxL w' := by
  obtain ⟨m, hm⟩ := h
  exact ⟨m, (k.cell (World.block_lt_of_cell? w _ hm) (fun h => h)).trans hm⟩
def keyOk (l : Bs) : Bool := decide (1 ≤ l.length) && decide (l.length ≤ 1024) && l.all fun c => inKy c.toNat
/-- may the byte at a place of a bucket's name stand there? -/
def okAt (l : Bs) (i : Nat) : Bool := inI (l.getD i 0).toNat || (((l.getD i 0).toNat == 45 || (l.getD i 0).toNat == 46) && i != 0 && i + 1 != l.length && !((l.getD i 0).toNat == 46 && (l.getD (i - 1) 0).toNat == 46))
def bktOk (l : Bs) : Bool := decide (3 ≤ l.length ∧ l.length ≤ 63) && (List.range l.length).all fun i => okAt l i
theorem occ2 (l : Bs) (i : Nat) : Lib.occAt l [46, 46] i = decide (l[i]? = some (46 : UInt8) ∧ l[i + 1]? = some (46 : UInt8)) := by
  unfold Lib.occAt
  rw [Bool.eq_iff_iff, List.isPrefixOf_iff_prefix, decide_eq_true_iff]
  constructor
  · rintro ⟨r, hr⟩
    have h0 : (l.drop i)[0]? = some 46 := by rw [← hr]; rfl
    have h1 : (l.drop i)[1]? = some 46 := by rw [← hr]; rfl
    rw [List.getElem?_drop] at h0 h1
    exact ⟨by simpa using h0, h1⟩
  · rintro ⟨h0, h1⟩
    obtain ⟨a1, e1⟩ := List.getElem?_eq_some_iff.1 h0
    obtain ⟨a2, e2⟩ := List.getElem?_eq_some_iff.1 h1
    refine ⟨l.drop (i + 2), ?_⟩
    rw [List.drop_eq_getElem_cons a1, List.drop_eq_getElem_cons a2, e1, e2]
    rfl
theorem contains2 (l : Bs) : Lib.contains l [46, 46] = true ↔ ∃ i : Nat, l[i]? = some (46 : UInt8) ∧ l[i + 1]? = some (46 : UInt8) := by
  unfold Lib.contains
  rw [decide_eq_true_iff]
  constructor
  · intro h
    obtain ⟨i, _, _, ho, _⟩ := index_nat h
    rw [occ2, decide_eq_true_iff] at ho
    exact ⟨i, ho⟩
  · rintro ⟨i, h⟩
    rcases Lib.index_spec l [46, 46] with ⟨_, hn⟩ | ⟨j, e, _⟩
    · have := hn i (by have := (List.getElem?_eq_some_iff.1 h.1).1; omega)
      rw [occ2, decide_eq_false_iff_not] at this
      exact absurd h this
    · omega
theorem bkt_eq (l : Bs) (h3 : 3 ≤ l.length) : (inI (l.getD 0 0).toNat && inI (l.getD (l.length - 1) 0).toNat && !Lib.contains l [46, 46] && l.all fun c => inBk c.toNat) = (List.range l.length).all fun i => okAt l i := by
  rw [Bool.eq_iff_iff]
  simp only [Bool.and_eq_true, Bool.not_eq_true', List.all_eq_true, List.mem_range]
  constructor
  · rintro ⟨⟨⟨h0, h1⟩, h2⟩, h4⟩ i hi
    have hb := h4 l[i] (List.getElem_mem hi)
    have hg : l.getD i 0 = l[i] := by simp [hi]
    unfold okAt
    rw [hg]
    unfold inBk at hb
    cases hin : inI l[i].toNat with
    | true => simp
    | false =>
      rw [hin] at hb
      simp only [Bool.false_or] at hb ⊢
      have hi0 : i ≠ 0 := fun e => by subst e; rw [hg, hin] at h0; cases h0
      have hi1 : i + 1 ≠ l.length := fun e => by
        have : l.length - 1 = i := by omega
        rw [this, hg, hin] at h1; cases h1
      have hdot : (l[i].toNat == 46 && (l.getD (i - 1) 0).toNat == 46) = false := by
        rw [Bool.eq_false_iff]
        intro hd
        simp only [Bool.and_eq_true, beq_iff_eq] at hd
        have hlt : i - 1 < l.length := by omega
        have : Lib.contains l [46, 46] = true := (contains2 l).2 ⟨i - 1, by
          rw [List.getElem?_eq_getElem hlt]
          have := hd.2
          simp only [List.getD_eq_getElem?_getD, List.getElem?_eq_getElem hlt, Option.getD_some] at this
          exact congrArg some (UInt8.toNat_inj.1 this), by
          rw [show i - 1 + 1 = i by omega, List.getElem?_eq_getElem hi]
          exact congrArg some (UInt8.toNat_inj.1 hd.1)⟩
        rw [this] at h2
        cases h2
      rw [hdot]
      simp only [Bool.or_eq_true, beq_iff_eq] at hb
      simp [hi0, hi1]
      omega
  · intro h
    have inI46 : inI (46 : UInt8).toNat = false := rfl
    refine ⟨⟨⟨?_, ?_⟩, ?_⟩, ?_⟩
    · have := h 0 (by omega)
      unfold okAt at this
      simpa using this
    · have := h (l.length - 1) (by omega)
      unfold okAt at this
      rw [show l.length - 1 + 1 = l.length by omega] at this
      simpa using this
    · rw [Bool.eq_false_iff]
      intro hc
      obtain ⟨i, e0, e1⟩ := (contains2 l).1 hc
      have := h (i + 1) (List.getElem?_eq_some_iff.1 e1).1
      unfold okAt at this
      simp only [List.getD_eq_getElem?_getD, e1, Option.getD_some, Nat.add_sub_cancel, e0, inI46, Bool.false_or] at this
      simp at this
    · intro c hc
      obtain ⟨i, hi, rfl⟩ := List.mem_iff_getElem.1 hc
      have := h i hi
      unfold okAt at this
      simp only [List.getD_eq_getElem?_getD, List.getElem?_eq_getElem hi, Option.getD_some] at this
      unfold inBk
      cases hin : inI l[i].toNat with
      | true => simp
      | false =>
        rw [hin] at this
        simp only [Bool.false_or, Bool.and_eq_true, Bool.or_eq_true, beq_iff_eq] at this ⊢
        omega

set_option maxRecDepth 100000 in
set_option maxHeartbeats 1000000 in
theorem pkey_any (s : ByteArray) (w : World) : Calls Tryz.prog 70 #[.string s] w fun e w' => e = .returned (.bool (keyOk s.data.toList)) ∧ w' = w := by
  have hsz : s.data.toList.length = s.size := by simp
  by_cases h1 : s.size ≤ 1024
  · have HK := hid (allK_any s w (by omega))
    by_cases h0 : 1 ≤ s.size
    · have HE : Hid (keyOk s.data.toList = s.data.toList.all fun c => inKy c.toNat) := by show _ = _; unfold keyOk; rw [hsz]; simp [h0, h1]
      rw [HE.out]
      generalize (s.data.toList.all fun c => inKy c.toNat) = b at *
      have h0' : (1 : Int) ≤ (s.size : Int) := by omega
      have h1' : (s.size : Int) ≤ 1024 := by omega
      clear HE hsz
      go_enter Tryz.func70, Tryz.ntmps70
      go_wp2_with fail
      refine HK.out.mono ?_
      rintro e w1 ⟨rfl, rfl⟩
      go_wp2
      go_ret
      exact ⟨rfl, rfl⟩
    · have HE : Hid (keyOk s.data.toList = false) := by show _ = _; unfold keyOk; rw [hsz]; simp [h0]
      rw [HE.out]
      have h0' : ¬ (1 : Int) ≤ (s.size : Int) := by omega
      have h0d : decide ((1 : Int) ≤ (s.size : Int)) = false := decide_eq_false h0'
      clear HE hsz HK h1 h0
      go_enter Tryz.func70, Tryz.ntmps70
      go_wp2
      go_ret
      exact ⟨rfl, rfl⟩
  · have HE : Hid (keyOk s.data.toList = false) := by show _ = _; unfold keyOk; rw [hsz]; simp [h1]
    rw [HE.out]
    have h0' : (1 : Int) ≤ (s.size : Int) := by omega
    have h1' : ¬ (s.size : Int) ≤ 1024 := by omega
    have h1d : decide ((s.size : Int) ≤ 1024) = false := decide_eq_false h1'
    clear HE hsz h1
    go_enter Tryz.func70, Tryz.ntmps70
    go_wp2
    go_ret
    exact ⟨rfl, rfl⟩
theorem cont_any (s : ByteArray) (w : World) (hm : MaxL w) (hs : s.size < 4294967281) : Calls Tryz.prog 106 #[.string s, .string ⟨#[46, 46]⟩] w fun e w' => e = .returned (.bool (Lib.contains s.data.toList [46, 46])) ∧ w' = w := by
  obtain ⟨m, hm⟩ := hm
  exact Any.strings_Contains { containsLaid with } s ⟨#[46, 46]⟩ m w hs hm
theorem at_getD (s : ByteArray) (k : Nat) (h : k < s.size) : s[k] = s.data.toList.getD k 0 := by
  have h2 : k < s.data.toList.length := by simpa using h
  rw [List.getD_eq_getElem?_getD, List.getElem?_eq_getElem h2]
  rfl
set_option maxRecDepth 100000 in
set_option maxHeartbeats 2000000 in
theorem pbucket_any (s : ByteArray) (w : World) (hm : MaxL w) : Calls Tryz.prog 69 #[.string s] w fun e w' => e = .returned (.bool (bktOk s.data.toList)) ∧ w' = w := by
  have hsz : s.data.toList.length = s.size := by simp
  by_cases h3 : s.size < 3
  · have HE : Hid (bktOk s.data.toList = false) := by show _ = _; unfold bktOk; rw [hsz, decide_eq_false (by omega)]; rfl
    rw [HE.out]
    have h3' : (s.size : Int) < 3 := by omega
    clear HE hsz h3
    go_enter Tryz.func69, Tryz.ntmps69
    go_wp2
    go_ret
    exact ⟨rfl, rfl⟩
  by_cases h63 : 63 < s.size
  · have HE : Hid (bktOk s.data.toList = false) := by show _ = _; unfold bktOk; rw [hsz, decide_eq_false (by omega)]; rfl
    rw [HE.out]
    have h3' : decide ((s.size : Int) < 3) = false := decide_eq_false (by omega)
    have h63' : (63 : Int) < (s.size : Int) := by omega
    clear HE hsz h3 h63
    go_enter Tryz.func69, Tryz.ntmps69
    go_wp2
    go_ret
    exact ⟨rfl, rfl⟩
  have HE : Hid (bktOk s.data.toList = (inI (s[0]'(by omega)).toNat && inI (s[s.size - 1]'(by omega)).toNat && !Lib.contains s.data.toList [46, 46] && s.data.toList.all fun c => inBk c.toNat)) := by
    show _ = _
    have := bkt_eq s.data.toList (by omega)
    rw [hsz, ← at_getD s 0 (by omega), ← at_getD s (s.size - 1) (by omega)] at this
    unfold bktOk
    rw [hsz, decide_eq_true (by omega), Bool.true_and, this]
  rw [HE.out]
  have HC := hid (cont_any s w hm (by omega))
  have HA := hid (allB_any s w (by omega))
  have h3' : decide ((s.size : Int) < 3) = false := decide_eq_false (by omega)
  have h63' : decide ((63 : Int) < (s.size : Int)) = false := decide_eq_false (by omega)
  have hp0 : (0 : Int) < (s.size : Int) := by omega
  have hw1 : wrap64 ((s.size : Int) - 1) = ((s.size - 1 : Nat) : Int) := by unfold wrap64; omega
  have hp1 : ((s.size - 1 : Nat) : Int) < (s.size : Int) := by omega
  have hp2 : (0 : Int) ≤ ((s.size - 1 : Nat) : Int) := by omega
  have hlt : s.size - 1 < s.size := by omega
  have hlt0 : 0 < s.size := by omega
  have I0 := hid (isInner_any (s[0]'(by omega)).toNat w)
  have I1 := hid (isInner_any (s[s.size - 1]'(by omega)).toNat w)
  generalize hb0 : inI (s[0]'(by omega)).toNat = b0 at *
  generalize hb1 : inI (s[s.size - 1]'(by omega)).toNat = b1 at *
  generalize Lib.contains s.data.toList [46, 46] = b2 at *
  generalize (s.data.toList.all fun c => inBk c.toNat) = b3 at *
  clear HE hsz h3 h63 hm hb0 hb1
  generalize s.size - 1 = k at *
  cases b0 with
  | false =>
    clear I1 HC HA
    go_enter Tryz.func69, Tryz.ntmps69
    go_wp2_with fail
    refine I0.out.mono ?_
    rintro e w1 ⟨rfl, rfl⟩
    go_wp2
    go_ret
    exact ⟨rfl, rfl⟩
  | true =>
    cases b1 with
    | false =>
      clear HC HA
      go_enter Tryz.func69, Tryz.ntmps69
      go_wp2_with fail
      refine I0.out.mono ?_
      rintro e w1 ⟨rfl, rfl⟩
      go_wp2_with fail
      refine I1.out.mono ?_
      rintro e w1 ⟨rfl, rfl⟩
      go_wp2
      go_ret
      exact ⟨rfl, rfl⟩
    | true =>
      cases b2 with
      | true =>
        clear HA
        go_enter Tryz.func69, Tryz.ntmps69
        go_wp2_with fail
        refine I0.out.mono ?_
        rintro e w1 ⟨rfl, rfl⟩
        go_wp2_with fail
        refine I1.out.mono ?_
        rintro e w1 ⟨rfl, rfl⟩
        go_wp2_with fail
        refine HC.out.mono ?_
        rintro e w1 ⟨rfl, rfl⟩
        go_wp2
        go_ret
        exact ⟨rfl, rfl⟩
      | false =>
        go_enter Tryz.func69, Tryz.ntmps69
        go_wp2_with fail
        refine I0.out.mono ?_
        rintro e w1 ⟨rfl, rfl⟩
        go_wp2_with fail
        refine I1.out.mono ?_
        rintro e w1 ⟨rfl, rfl⟩
        go_wp2_with fail
        refine HC.out.mono ?_
        rintro e w1 ⟨rfl, rfl⟩
        go_wp2_with fail
        refine HA.out.mono ?_
        rintro e w1 ⟨rfl, rfl⟩
        go_wp2
        go_ret
        exact ⟨rfl, rfl⟩
end Go.Proofs.YtmadlnchmkhdjaaGreat
namespace Go.Proofs.YtmadlnchmkhdjaaGreat
open Go.RowKit Go.Shelf
set_option linter.unusedVariables false
set_option linter.unusedSimpArgs false

set_option maxRecDepth 100000 in
set_option maxHeartbeats 2000000 in
theorem rkey_any (s : ByteArray) (w : World) (hz : s.size ≤ 140737488355328) : Calls Tryz.prog 36 #[.string s] w fun e w' => e = .returned (.bool (keyOk s.data.toList)) ∧ w' = w := by
  have hsz : s.data.toList.length = s.size := by simp
  have HS0 : Hid ((s.data.toList.take 0).all (fun c => inKy c.toNat) = true) := rfl
  go_enter Tryz.func36, Tryz.ntmps36
  go_wp2
  go_loopw [3] (fun i wr => ∃ k : Nat, k ≤ s.size ∧ i = .int .i64 k ∧ wr = w ∧ Hid ((s.data.toList.take k).all (fun c => inKy c.toNat) = true)) (fun i _ => s.size - (intOf i).toNat)
  case atStart => exact ⟨0, by omega, rfl, rfl, HS0⟩
  case round =>
    clear HS0
    obtain ⟨k, hk, rfl, hwr, HA⟩ := hrel
    subst hwr
    by_cases hlt : k < s.size
    · have hk0 : (0 : Int) ≤ (k : Int) := by omega
      have hk1 : (k : Int) < (s.size : Int) := by omega
      have HT := show Hid _ from allN_succ inKy s k hlt
      have HN := show Hid _ from notN_all inKy (s := s) (k := k) hlt
      generalize hc : s[k] = c at HT HN
      cases hi : inKy c.toNat with
      | true =>
        have hq : ((c.toNat : Int) == 0) = false := by unfold inKy at hi; rw [beq_eq_false_iff_ne]; have : ¬ c.toNat = 0 := by simpa using hi
                                                       omega
        rw [hi, HA.out] at HT
        clear hi HN HA hsz
        go_wp2
        exact ⟨⟨k + 1, by omega, by go_num, by trivial, HT.out⟩, by simp [intOf]; omega⟩
      | false =>
        have hq : ((c.toNat : Int) == 0) = true := by unfold inKy at hi; rw [beq_iff_eq]; have : c.toNat = 0 := by simpa using hi
                                                      omega
        have HF : Hid (false = keyOk s.data.toList) := by show _ = _; unfold keyOk; rw [HN.out hi]; simp
        clear hi HN HA HT hsz
        go_wp2
        go_ret
        exact ⟨retB HF.out, rfl⟩
    · have hd : decide ((k : Int) < (s.size : Int)) = false := decide_eq_false (by omega)
      have hks : k = s.size := by omega
      have HE : Hid (keyOk s.data.toList = (decide ((1 : Int) ≤ (s.size : Int)) && decide ((s.size : Int) ≤ 1024))) := by
        have := HA.out
        rw [hks, List.take_of_length_le (by simp)] at this
        show _ = _
        unfold keyOk
        rw [this, hsz, Bool.and_true, decide_eq_decide.2 (show 1 ≤ s.size ↔ (1 : Int) ≤ (s.size : Int) by omega), decide_eq_decide.2 (show s.size ≤ 1024 ↔ (s.size : Int) ≤ 1024 by omega)]
      clear HA hks hsz
      by_cases h1 : (1 : Int) ≤ (s.size : Int)
      · go_wp2
        go_ret
        exact ⟨retB (by rw [HE.out]; simp [h1]), rfl⟩
      · have h1d : decide ((1 : Int) ≤ (s.size : Int)) = false := decide_eq_false h1
        go_wp2
        go_ret
        exact ⟨retB (by rw [HE.out, h1d]; rfl), rfl⟩
theorem okAt_in {l : Bs} {i : Nat} (h : inI (l.getD i 0).toNat = true) : okAt l i = true := by unfold okAt; rw [h]; rfl
theorem okAt_out {l : Bs} {i : Nat} (h : inI (l.getD i 0).toNat = false) : okAt l i = (((l.getD i 0).toNat == 45 || (l.getD i 0).toNat == 46) && i != 0 && i + 1 != l.length && !((l.getD i 0).toNat == 46 && (l.getD (i - 1) 0).toNat == 46)) := by unfold okAt; rw [h]; rfl
theorem okR_succ {l : Bs} {k : Nat} (h : (List.range k).all (fun i => okAt l i) = true) (hk : okAt l k = true) : (List.range (k + 1)).all (fun i => okAt l i) = true := by
  rw [List.range_succ, List.all_append, h]
  simp [hk]
theorem okR_not {l : Bs} {k : Nat} (h : k < l.length) (hk : okAt l k = false) : bktOk l = false := by
  unfold bktOk
  have : (List.range l.length).all (fun i => okAt l i) = false := by
    rw [List.all_eq_false]
    exact ⟨k, by simpa using h, by rw [hk]; decide⟩
  rw [this, Bool.and_false]
set_option maxRecDepth 100000 in
set_option maxHeartbeats 4000000 in
theorem rbucket_any (s : ByteArray) (w : World) : Calls Tryz.prog 34 #[.string s] w fun e w' => e = .returned (.bool (bktOk s.data.toList)) ∧ w' = w := by
  have hsz : s.data.toList.length = s.size := by simp
  by_cases h3 : s.size < 3
  · have HE : Hid (bktOk s.data.toList = false) := by show _ = _; unfold bktOk; rw [hsz, decide_eq_false (by omega)]; rfl
    rw [HE.out]
    have h3' : (s.size : Int) < 3 := by omega
    clear HE hsz h3
    go_enter Tryz.func34, Tryz.ntmps34
    go_wp2
    go_ret
    exact ⟨rfl, rfl⟩
  by_cases h63 : 63 < s.size
  · have HE : Hid (bktOk s.data.toList = false) := by show _ = _; unfold bktOk; rw [hsz, decide_eq_false (by omega)]; rfl
    rw [HE.out]
    have h3' : decide ((s.size : Int) < 3) = false := decide_eq_false (by omega)
    have h63' : (63 : Int) < (s.size : Int) := by omega
    clear HE hsz h3 h63
    go_enter Tryz.func34, Tryz.ntmps34
    go_wp2
    go_ret
    exact ⟨rfl, rfl⟩
  have h3' : decide ((s.size : Int) < 3) = false := decide_eq_false (by omega)
  have h63' : decide ((63 : Int) < (s.size : Int)) = false := decide_eq_false (by omega)
  have HS0 : Hid ((List.range 0).all (fun i => okAt s.data.toList i) = true) := rfl
  have HZ : Hid (3 ≤ s.size ∧ s.size ≤ 63) := ⟨by omega, by omega⟩
  have hzz : s.size ≤ 140737488355328 := by omega
  have HL := hid hsz
  have hw1 : wrap64 ((s.size : Int) - 1) = (s.size : Int) - 1 := by unfold wrap64; omega
  clear hsz h3 h63
  go_enter Tryz.func34, Tryz.ntmps34
  go_wp2
  go_loopw [4] (fun i wr => ∃ k : Nat, k ≤ s.size ∧ i = .int .i64 k ∧ wr = w ∧ Hid ((List.range k).all (fun i => okAt s.data.toList i) = true)) (fun i _ => s.size - (intOf i).toNat)
  case atStart => exact ⟨0, by omega, rfl, rfl, HS0⟩
  case round =>
    clear HS0
    obtain ⟨k, hk, rfl, hwr, HA⟩ := hrel
    subst hwr
    by_cases hlt : k < s.size
    · have hk0 : (0 : Int) ≤ (k : Int) := by omega
      have hk1 : (k : Int) < (s.size : Int) := by omega
      have HG := hid (at_getD s k hlt)
      have HS := hid (fun h => okR_succ (k := k) HA.out h)
      have HN := hid (fun h => okR_not (l := s.data.toList) (k := k) (by rw [HL.out]; exact hlt) h)
      have HI := hid (fun h => okAt_in (l := s.data.toList) (i := k) h)
      have HO := hid (fun h => okAt_out (l := s.data.toList) (i := k) h)
      have hzb := HZ.out
      have HP : Hid (∀ h : k ≠ 0, s[k - 1]'(by omega) = s.data.toList.getD (k - 1) 0) := fun h => at_getD s (k - 1) (by omega)
      rw [HL.out] at HO
      generalize okAt s.data.toList k = b at *
      rw [← HG.out] at HI HO
      have hkw : k ≠ 0 → wrap64 ((k : Int) - 1) = ((k - 1 : Nat) : Int) := fun h => by unfold wrap64; omega
      generalize hc : s[k] = c at *
      cases hin : inI c.toNat with
      | true =>
        have hb := HI.out hin
        have HT := hid (HS.out hb)
        clear HA HG HS HN HI HO HP hb hkw hzb
        have HIN : Hid (97 ≤ c.toNat ∧ c.toNat ≤ 122 ∨ 48 ≤ c.toNat ∧ c.toNat ≤ 57) := by
          unfold inI at hin
          have : (97 ≤ c.toNat ∧ c.toNat ≤ 122) ∨ (48 ≤ c.toNat ∧ c.toNat ≤ 57) := by simpa using hin
          exact this
        clear hin
        by_cases c1 : (97 : Int) ≤ (c.toNat : Int)
        · by_cases c2 : (c.toNat : Int) ≤ 122
          · clear HIN
            go_wp2
            exact ⟨⟨k + 1, by omega, by go_num, by trivial, HT.out⟩, by simp [intOf]; omega⟩
          · exfalso; have := HIN.out; omega
        · have c1d : decide ((97 : Int) ≤ (c.toNat : Int)) = false := decide_eq_false c1
          have c3 : (48 : Int) ≤ (c.toNat : Int) := by have := HIN.out; omega
          have c4 : (c.toNat : Int) ≤ 57 := by have := HIN.out; omega
          clear HIN c1
          go_wp2
          exact ⟨⟨k + 1, by omega, by go_num, by trivial, HT.out⟩, by simp [intOf]; omega⟩
      | false =>
        have hb := HO.out hin
        have HIN : Hid (¬ (97 ≤ c.toNat ∧ c.toNat ≤ 122) ∧ ¬ (48 ≤ c.toNat ∧ c.toNat ≤ 57)) := by
          unfold inI at hin
          refine ⟨fun h => ?_, fun h => ?_⟩
          · rw [decide_eq_true h.1, decide_eq_true h.2] at hin; cases hin
          · rw [decide_eq_true h.1, decide_eq_true h.2] at hin; simp at hin
        clear HI HO hin HG
        have HB := hid hb
        clear hb
        by_cases d45 : c.toNat = 45
        · have c1d : decide ((97 : Int) ≤ (c.toNat : Int)) = false := decide_eq_false (by omega)
          have c3d : decide ((48 : Int) ≤ (c.toNat : Int)) = false := decide_eq_false (by omega)
          have n45 : ((c.toNat : Int) != 45) = false := by simp; omega
          have n46 : ((c.toNat : Int) != 46) = true := by simp; omega
          have e46 : ((c.toNat : Int) == 46) = false := by rw [beq_eq_false_iff_ne]; omega
          by_cases k0 : k = 0
          · have k0d : ((k : Int) == 0) = true := by rw [beq_iff_eq]; omega
            have HF : Hid (false = bktOk s.data.toList) := (HN.out (by rw [HB.out]; simp [k0])).symm
            clear HA HS HN HP HB HIN hzb
            try clear p46
            try clear k1
            try clear k0
            try clear d45
            try clear d46
            go_wp2
            go_ret
            exact ⟨retB HF.out, rfl⟩
          have k0d : ((k : Int) == 0) = false := by rw [beq_eq_false_iff_ne]; omega
          by_cases k1 : k + 1 = s.size
          · have k1d : ((k : Int) == (s.size : Int) - 1) = true := by rw [beq_iff_eq]; omega
            have HF : Hid (false = bktOk s.data.toList) := (HN.out (by rw [HB.out]; simp [k1])).symm
            clear HA HS HN HP HB HIN hzb
            try clear p46
            try clear k1
            try clear k0
            try clear d45
            try clear d46
            go_wp2
            go_ret
            exact ⟨retB HF.out, rfl⟩
          have k1d : ((k : Int) == (s.size : Int) - 1) = false := by rw [beq_eq_false_iff_ne]; omega
          have HT := hid (HS.out (by rw [HB.out]; simp [d45, k0, k1]))
          clear HA HS HN HP HB HIN hzb
          try clear p46
          try clear k1
          try clear k0
          try clear d45
          try clear d46
          go_wp2
          exact ⟨⟨k + 1, by omega, by go_num, by trivial, HT.out⟩, by simp [intOf]; omega⟩
        by_cases d46 : c.toNat = 46
        · have c1d : decide ((97 : Int) ≤ (c.toNat : Int)) = false := decide_eq_false (by omega)
          have c3d : decide ((48 : Int) ≤ (c.toNat : Int)) = false := decide_eq_false (by omega)
          have n45 : ((c.toNat : Int) != 45) = true := by simp; omega
          have n46 : ((c.toNat : Int) != 46) = false := by simp; omega
          have e46 : ((c.toNat : Int) == 46) = true := by rw [beq_iff_eq]; omega
          by_cases k0 : k = 0
          · have k0d : ((k : Int) == 0) = true := by rw [beq_iff_eq]; omega
            have HF : Hid (false = bktOk s.data.toList) := (HN.out (by rw [HB.out]; simp [k0])).symm
            clear HA HS HN HP HB HIN hzb
            try clear p46
            try clear k1
            try clear k0
            try clear d45
            try clear d46
            go_wp2
            go_ret
            exact ⟨retB HF.out, rfl⟩
          have k0d : ((k : Int) == 0) = false := by rw [beq_eq_false_iff_ne]; omega
          by_cases k1 : k + 1 = s.size
          · have k1d : ((k : Int) == (s.size : Int) - 1) = true := by rw [beq_iff_eq]; omega
            have HF : Hid (false = bktOk s.data.toList) := (HN.out (by rw [HB.out]; simp [k1])).symm
            clear HA HS HN HP HB HIN hzb
            try clear p46
            try clear k1
            try clear k0
            try clear d45
            try clear d46
            go_wp2
            go_ret
            exact ⟨retB HF.out, rfl⟩
          have k1d : ((k : Int) == (s.size : Int) - 1) = false := by rw [beq_eq_false_iff_ne]; omega
          have h11 : (1 : Int) ≤ (k : Int) := by omega
          have h12 : (k : Int) - 1 < (s.size : Int) := by omega
          have h13 : (0 : Int) ≤ (k : Int) - 1 := by omega
          have hpl : k - 1 < s.size := by omega
          rw [← at_getD s (k - 1) hpl] at HB
          clear HP hkw
          by_cases p46 : (s[k - 1]'hpl).toNat = 46
          · have p46d : (((s[k - 1]'hpl).toNat : Int) == 46) = true := by rw [beq_iff_eq]; omega
            have HF : Hid (false = bktOk s.data.toList) := (HN.out (by rw [HB.out]; simp [d46, p46])).symm
            clear HA HS HN HB HIN hzb
            try clear p46
            try clear k1
            try clear k0
            try clear d45
            try clear d46
            go_wp2
            go_ret
            exact ⟨retB HF.out, rfl⟩
          · have p46d : (((s[k - 1]'hpl).toNat : Int) == 46) = false := by rw [beq_eq_false_iff_ne]; omega
            have HT := hid (HS.out (by rw [HB.out]; simp [d46, p46, k0, k1]))
            clear HA HS HN HB HIN hzb
            try clear p46
            try clear k1
            try clear k0
            try clear d45
            try clear d46
            go_wp2
            exact ⟨⟨k + 1, by omega, by go_num, by trivial, HT.out⟩, by simp [intOf]; omega⟩
        have n45 : ((c.toNat : Int) != 45) = true := by simp; omega
        have n46 : ((c.toNat : Int) != 46) = true := by simp; omega
        have HF : Hid (false = bktOk s.data.toList) := (HN.out (by rw [HB.out]; simp [d45, d46])).symm
        by_cases z97 : 97 ≤ c.toNat
        · have c1 : (97 : Int) ≤ (c.toNat : Int) := by omega
          have c2d : decide ((c.toNat : Int) ≤ 122) = false := decide_eq_false (by have := HIN.out; omega)
          have c3 : (48 : Int) ≤ (c.toNat : Int) := by omega
          have c4d : decide ((c.toNat : Int) ≤ 57) = false := decide_eq_false (by have := HIN.out; omega)
          clear HA HS HN HP HB HIN hzb
          try clear p46
          try clear k1
          try clear k0
          try clear d45
          try clear d46
          go_wp2
          go_ret
          exact ⟨retB HF.out, rfl⟩
        by_cases z48 : 48 ≤ c.toNat
        · have c1d : decide ((97 : Int) ≤ (c.toNat : Int)) = false := decide_eq_false (by omega)
          have c3 : (48 : Int) ≤ (c.toNat : Int) := by omega
          have c4d : decide ((c.toNat : Int) ≤ 57) = false := decide_eq_false (by have := HIN.out; omega)
          clear HA HS HN HP HB HIN hzb
          try clear p46
          try clear k1
          try clear k0
          try clear d45
          try clear d46
          go_wp2
          go_ret
          exact ⟨retB HF.out, rfl⟩
        have c1d : decide ((97 : Int) ≤ (c.toNat : Int)) = false := decide_eq_false (by omega)
        have c3d : decide ((48 : Int) ≤ (c.toNat : Int)) = false := decide_eq_false (by omega)
        clear HA HS HN HP HB HIN hzb
        try clear p46
        try clear k1
        try clear k0
        try clear d45
        try clear d46
        go_wp2
        go_ret
        exact ⟨retB HF.out, rfl⟩
    · have hd : decide ((k : Int) < (s.size : Int)) = false := decide_eq_false (by omega)
      have hks : k = s.size := by omega
      have HE : Hid (true = bktOk s.data.toList) := by
        have := HA.out
        show _ = _
        unfold bktOk
        rw [HL.out, ← hks, this, decide_eq_true (by have := HZ.out; omega)]
        rfl
      clear HA hks
      go_wp2
      go_ret
      exact ⟨retB HE.out, rfl⟩
end Go.Proofs.YtmadlnchmkhdjaaGreat
