/- The value of a name: both. -/
import Derived.Test.YtnohkhgoejjfhaaDoorPeP
import Derived.Test.YtnohkhgoejjfhaaDoorClone
namespace Go.Proofs.YtnohkhgoejjfhaaDoor
open Go.RowKit Go.Maps Go.Shelf
set_option linter.unusedVariables false
set_option linter.unusedSimpArgs false

/-- the value of a name, and whether it is there -/
def getP (l : List Pq) (nm : List UInt8) : List UInt8 × Bool := match l.find? (fun p => decide (p.1 = nm)) with
  | some p => (p.2, true)
  | none => ([], false)
theorem getP_at (l : List Pq) (nm : List UInt8) (k : Nat) (hk : k < l.length) (h : ∀ p ∈ l.take k, ¬ p.1 = nm) (he : l[k].1 = nm) : getP l nm = (l[k].2, true) := by
  have e : l = l.take k ++ l[k] :: l.drop (k + 1) := by rw [← List.drop_eq_getElem_cons hk, List.take_append_drop]
  have hf : l.find? (fun p => decide (p.1 = nm)) = some l[k] := by
    have : (l.take k ++ l[k] :: l.drop (k + 1)).find? (fun p => decide (p.1 = nm)) = some l[k] := by
      rw [List.find?_append, List.find?_eq_none.2 (fun p hp => by simpa using h p hp), Option.none_or, List.find?_cons_of_pos (by simpa using he)]
    rwa [← e] at this
  unfold getP; rw [hf]
theorem getP_no (l : List Pq) (nm : List UInt8) (h : ∀ p ∈ l, ¬ p.1 = nm) : getP l nm = ([], false) := by
  unfold getP; rw [List.find?_eq_none.2 (fun p hp => by simpa using h p hp)]
theorem eq_b (l : List UInt8) (s : ByteArray) : (ByteArray.toList ⟨l.toArray⟩ == s.toList) = decide (l = s.data.toList) := by
  rw [ByteArray.toList_eq, ByteArray.toList_eq]
  by_cases h : l = s.data.toList
  · rw [decide_eq_true h]; simp [h]
  · rw [decide_eq_false h]; simpa using h
set_option maxRecDepth 100000 in
set_option maxHeartbeats 4000000 in
theorem pget_any (v : Value) (l : List Pq) (nm : ByteArray) (w : World) (hv : PqI w v l) (hl : l.length ≤ 1048576) (hs : szP l ≤ 1048576) : Calls Tryd.prog 20 #[v, .string nm] w fun e w' => e = .returned (.tuple #[.string ⟨(getP l nm.data.toList).1.toArray⟩, .bool (getP l nm.data.toList).2]) ∧ Below w.heap.size w w' := by
  obtain ⟨ad, cap, rfl, hc⟩ := hv.form
  have HL := hid hl
  have HC := hid hc
  have HAT := hid (getP_at l nm.data.toList)
  have HNO := hid (getP_no l nm.data.toList)
  have HZ : Hid (l.take l.length = l) := List.take_length
  have HSZ := hid (fun k hk => Nat.le_trans (szP_at l k hk) hs)
  generalize getP l nm.data.toList = G at *
  clear hc hv hl hs
  go_enter Tryd.func20, Tryd.ntmps20
  go_wp2
  go_loopw [10] (fun i wr => ∃ (k : Nat), k ≤ l.length ∧ i = .int .i64 (k : Int) ∧ Hid (Below w.heap.size w wr) ∧ Hid (∀ p ∈ l.take k, ¬ p.1 = nm.data.toList)) (fun i _ => l.length - (intOf i).toNat)
  case atStart => exact ⟨0, Nat.zero_le _, rfl, Below.refl _ _, by show ∀ _ ∈ _, _; simp⟩
  case round =>
    obtain ⟨k, hk, rfl, HB, HN⟩ := hrel
    rename World => wr
    by_cases hlt : k < l.length
    · have hk1 : (k : Int) < (l.length : Int) := by omega
      have hk0 : (0 : Int) ≤ (k : Int) := by omega
      obtain ⟨b, off, rfl, hb, c0, c1⟩ := HC.out k hlt
      have d0 := (HB.out.cell (p := ⟨b, off + k * 2, none⟩) hb).trans c0
      have d1 := (HB.out.cell (p := ⟨b, off + k * 2 + 1, none⟩) hb).trans c1
      have hwk : wrap64 ((k : Int) + 1) = ((k + 1 : Nat) : Int) := by have := HL.out; rw [IntWalk.wrap64_in _ (by omega)]; omega
      have HLT := hid hlt
      have hbe := eq_b l[k].1 nm
      have HA := hid (HAT.out k hlt HN.out)
      have HN2 : Hid (¬ l[k].1 = nm.data.toList → ∀ p ∈ l.take (k + 1), ¬ p.1 = nm.data.toList) := fun h p hp => by
        rw [List.take_succ_eq_append_getElem hlt] at hp
        rcases List.mem_append.1 hp with hp | hp
        · exact HN.out p hp
        · simp at hp; subst hp; exact h
      have CL := hid (fun W => clone_any ⟨l[k].2.toArray⟩ W (by have := HSZ.out k hlt; rw [ba_size]; omega))
      have HBX := hid (below_al (Below.refl wr.heap.size wr) (.cells #[.string ⟨l[k].1.toArray⟩, .string ⟨l[k].2.toArray⟩] 32))
      have HBY := hid (below_on HB.out HBX.out)
      by_cases he : l[k].1 = nm.data.toList
      · have hb2 : (ByteArray.toList ⟨l[k].1.toArray⟩ == nm.toList) = true := by rw [hbe]; exact decide_eq_true he
        have HF := hid (HA.out he)
        generalize l[k].1 = pn at *
        generalize l[k].2 = pv at *
        generalize (⟨pn.toArray⟩ : ByteArray) = NA at *
        clear hbe he HA HN2 HN HC HAT HNO HZ HL c0 c1 hb hlt hk HSZ
        go_wp2_with fail
        refine (CL.out _).mono ?_
        rintro e w1 ⟨rfl, b1⟩
        have HE := hid (below_on HBY.out b1)
        clear b1 CL HBX HBY d0 d1
        go_wp2
        go_ret2
        exact ⟨by rw [HF.out]; rfl, HE.out⟩
      · have hb2 : (ByteArray.toList ⟨l[k].1.toArray⟩ == nm.toList) = false := by rw [hbe]; exact decide_eq_false he
        have HN3 := hid (HN2.out he)
        generalize (⟨l[k].1.toArray⟩ : ByteArray) = NA at *
        generalize (⟨l[k].2.toArray⟩ : ByteArray) = VA at *
        clear hbe he HA HN2 HN HC HAT HNO HZ HL c0 c1 hb hlt hk HSZ CL HBX
        go_wp2
        exact ⟨⟨k + 1, HLT.out, by first | rw [hwk] | rfl | simp, HBY, HN3⟩, by (try rw [hwk]); have := HLT.out; simp [intOf]; omega⟩
    · have hke : k = l.length := by omega
      have hd1 : decide ((k : Int) < (l.length : Int)) = false := decide_eq_false (by omega)
      have hd2 : decide (k < l.length) = false := decide_eq_false hlt
      subst hke
      rw [HZ.out] at HN
      have HF := hid (HNO.out HN.out)
      clear HC HAT HNO HZ HL HN hlt hk HSZ
      go_wp2
      go_ret2
      exact ⟨by rw [HF.out]; rfl, HB.out⟩
set_option maxRecDepth 100000 in
set_option maxHeartbeats 4000000 in
theorem rget_any (v : Value) (l : List Pq) (nm : ByteArray) (w : World) (hv : PqI w v l) (hl : l.length ≤ 1048576) : Calls Tryd.prog 21 #[v, .string nm] w fun e w' => e = .returned (.tuple #[.string ⟨(getP l nm.data.toList).1.toArray⟩, .bool (getP l nm.data.toList).2]) ∧ Below w.heap.size w w' := by
  obtain ⟨ad, cap, rfl, hc⟩ := hv.form
  have HL := hid hl
  have HC := hid hc
  have HAT := hid (getP_at l nm.data.toList)
  have HNO := hid (getP_no l nm.data.toList)
  have HZ : Hid (l.take l.length = l) := List.take_length
  generalize getP l nm.data.toList = G at *
  clear hc hv hl
  go_enter Tryd.func21, Tryd.ntmps21
  go_wp2
  go_loopw [6] (fun i wr => ∃ (k : Nat), k ≤ l.length ∧ i = .int .i64 (k : Int) ∧ Hid (Below w.heap.size w wr) ∧ Hid (∀ p ∈ l.take k, ¬ p.1 = nm.data.toList)) (fun i _ => l.length - (intOf i).toNat)
  case atStart => exact ⟨0, Nat.zero_le _, rfl, Below.refl _ _, by show ∀ _ ∈ _, _; simp⟩
  case round =>
    obtain ⟨k, hk, rfl, HB, HN⟩ := hrel
    rename World => wr
    by_cases hlt : k < l.length
    · have hk1 : (k : Int) < (l.length : Int) := by omega
      have hk0 : (0 : Int) ≤ (k : Int) := by omega
      obtain ⟨b, off, rfl, hb, c0, c1⟩ := HC.out k hlt
      have d0 := (HB.out.cell (p := ⟨b, off + k * 2, none⟩) hb).trans c0
      have d1 := (HB.out.cell (p := ⟨b, off + k * 2 + 1, none⟩) hb).trans c1
      have hwk : wrap64 ((k : Int) + 1) = ((k + 1 : Nat) : Int) := by have := HL.out; rw [IntWalk.wrap64_in _ (by omega)]; omega
      have HLT := hid hlt
      have hbe := eq_b l[k].1 nm
      have HA := hid (HAT.out k hlt HN.out)
      have HN2 : Hid (¬ l[k].1 = nm.data.toList → ∀ p ∈ l.take (k + 1), ¬ p.1 = nm.data.toList) := fun h p hp => by
        rw [List.take_succ_eq_append_getElem hlt] at hp
        rcases List.mem_append.1 hp with hp | hp
        · exact HN.out p hp
        · simp at hp; subst hp; exact h
      by_cases he : l[k].1 = nm.data.toList
      · have hb2 : (ByteArray.toList ⟨l[k].1.toArray⟩ == nm.toList) = true := by rw [hbe]; exact decide_eq_true he
        have HF := hid (HA.out he)
        generalize l[k].1 = pn at *
        generalize l[k].2 = pv at *
        generalize (⟨pn.toArray⟩ : ByteArray) = NA at *
        clear hbe he HA HN2 HN HC HAT HNO HZ HL c0 c1 hb hlt hk
        go_wp2
        go_ret2
        exact ⟨by rw [HF.out]; rfl, HB.out⟩
      · have hb2 : (ByteArray.toList ⟨l[k].1.toArray⟩ == nm.toList) = false := by rw [hbe]; exact decide_eq_false he
        have HN3 := hid (HN2.out he)
        generalize (⟨l[k].1.toArray⟩ : ByteArray) = NA at *
        generalize (⟨l[k].2.toArray⟩ : ByteArray) = VA at *
        clear hbe he HA HN2 HN HC HAT HNO HZ HL c0 c1 hb hlt hk
        go_wp2
        exact ⟨⟨k + 1, HLT.out, by first | rw [hwk] | rfl | simp, HB, HN3⟩, by (try rw [hwk]); have := HLT.out; simp [intOf]; omega⟩
    · have hke : k = l.length := by omega
      have hd1 : decide ((k : Int) < (l.length : Int)) = false := decide_eq_false (by omega)
      have hd2 : decide (k < l.length) = false := decide_eq_false hlt
      subst hke
      rw [HZ.out] at HN
      have HF := hid (HNO.out HN.out)
      clear HC HAT HNO HZ HL HN hlt hk
      go_wp2
      go_ret2
      exact ⟨by rw [HF.out]; rfl, HB.out⟩
end Go.Proofs.YtnohkhgoejjfhaaDoor
