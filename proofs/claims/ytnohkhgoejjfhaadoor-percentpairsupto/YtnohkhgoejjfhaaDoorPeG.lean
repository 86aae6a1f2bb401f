/- The bytes that a text says: the program's. -/
import Derived.Test.YtnohkhgoejjfhaaDoorPeF
namespace Go.Proofs.YtnohkhgoejjfhaaDoor
open Go.RowKit
set_option linter.unusedVariables false
set_option linter.unusedSimpArgs false

/-- what is answered -/
def boE (raw : UInt8 → Option UInt8) (t : List UInt8) : List UInt8 × Nat := match rdE raw t with
  | none => ([], 3)
  | some l => (l, 0)
/-- the reading at a place: what was read, and that the rest is to be put behind it -/
def RdA (raw : UInt8 → Option UInt8) (t l : List UInt8) (m : Nat) : Prop := m ≤ t.length ∧ l.length ≤ m ∧ rdE raw t = (rdE raw (t.drop m)).map (l ++ ·)
theorem RdA.start (raw : UInt8 → Option UInt8) (t : List UInt8) : RdA raw t [] 0 := ⟨Nat.zero_le _, Nat.le_refl _, by rw [List.drop_zero]; cases rdE raw t <;> rfl⟩
theorem stE_le (raw : UInt8 → Option UInt8) (t : List UInt8) (d : UInt8) (n : Nat) (h : stE raw t = some (d, n)) : 1 ≤ n ∧ n ≤ t.length := by
  cases t with
  | nil => cases h
  | cons c r =>
    by_cases hc : c.toNat = 37
    · rcases r with _ | ⟨a, _ | ⟨b, r⟩⟩
      · rw [stE_cut1 raw c hc] at h; cases h
      · rw [stE_cut2 raw c a hc] at h; cases h
      · rw [stE_esc raw c a b r hc] at h
        split at h
        · cases h
        · cases h; exact ⟨by omega, by simp⟩
    · rw [stE_raw raw c r hc] at h
      obtain ⟨q, -, e⟩ := Option.map_eq_some_iff.1 h
      cases e; exact ⟨by omega, by simp⟩
theorem RdA.fail {raw : UInt8 → Option UInt8} {t l : List UInt8} {m : Nat} (h : RdA raw t l m) (hm : m < t.length) (hs : stE raw (t.drop m) = none) : boE raw t = ([], 3) := by
  have e := List.drop_eq_getElem_cons hm
  unfold boE
  rw [h.2.2, e, rdE_st, ← e, hs]; rfl
theorem RdA.next {raw : UInt8 → Option UInt8} {t l : List UInt8} {m : Nat} (h : RdA raw t l m) (hm : m < t.length) {d : UInt8} {n : Nat} (hs : stE raw (t.drop m) = some (d, n)) : RdA raw t (l ++ [d]) (m + n) ∧ 1 ≤ n := by
  have hn := stE_le raw _ d n hs
  rw [List.length_drop] at hn
  have e := List.drop_eq_getElem_cons hm
  refine ⟨⟨by omega, by have := h.2.1; simp; omega, ?_⟩, hn.1⟩
  have e2 : rdE raw (t.drop m) = (rdE raw (t.drop (m + n))).map (d :: ·) := by
    rw [e, rdE_st, ← e, hs]
    show (rdE raw ((t.drop m).drop n)).map _ = _
    rw [List.drop_drop]
  rw [h.2.2, e2, Option.map_map]
  congr 1
  funext x
  simp
theorem RdA.done {raw : UInt8 → Option UInt8} {t l : List UInt8} {m : Nat} (h : RdA raw t l m) (hm : t.length ≤ m) : boE raw t = (l, 0) := by
  unfold boE
  rw [h.2.2, List.drop_eq_nil_of_le hm, rdE_nil]
  simp
theorem ext_list (t : ByteArray) (k : Nat) (h : k ≤ t.size) : (t.extract k t.size).data.toList = t.data.toList.drop k := by
  have : (t.extract k t.size).data = t.data.extract k t.size := by simp
  rw [this]
  have e : t.size = t.data.toList.length := by simp
  rw [Array.toList_extract]
  show (t.data.toList.drop k).take (t.size - k) = _
  exact List.take_of_length_le (by rw [List.length_drop, ← e]; exact Nat.le_refl _)

set_option maxRecDepth 100000 in
set_option maxHeartbeats 2000000 in
theorem bytesOf_path (t : ByteArray) (w : World) (hs : t.size ≤ 1048576) : Calls Tryd.prog 23 #[.string t, .func (.func 24) #[] #[]] w fun e w' => e = .returned (.tuple #[.string ⟨(boE rwP t.data.toList).1.toArray⟩, .int .i64 (boE rwP t.data.toList).2]) ∧ Below w.heap.size w w' := by
  have HB0 : Hid (BY w [] (w.alloc (.cells #[.pointer none, .slice none 0 0] 68))) := BY.new w
  have HR0 := hid (RdA.start rwP t.data.toList)
  have hL : t.data.toList.length = t.size := by simp
  go_enter Tryd.func23, Tryd.ntmps23
  go_wp2
  go_loopw [7, 14] (fun nx i wr => ∃ (k m : Nat) (l : List UInt8), k ≤ m ∧ k ≤ t.size ∧ nx = .int .i64 m ∧ i = .int .i64 k ∧ Hid (BY w l wr) ∧ Hid (RdA rwP t.data.toList l m)) (fun _ i _ => t.size - (intOf i).toNat)
  case atStart => exact ⟨0, 0, [], by omega, by omega, rfl, rfl, HB0, HR0⟩
  case round =>
    clear HB0 HR0
    obtain ⟨k, m, l, hkm, hkt, rfl, rfl, HB, HR⟩ := hrel
    rename World => w1
    have hmt : m ≤ t.size := by have := HR.out.1; omega
    by_cases hlt : k < t.size
    · have hk0 : (0 : Int) ≤ (k : Int) := by omega
      have hk1 : (k : Int) < (t.size : Int) := by omega
      have hk2 : (k : Int) ≤ (t.size : Int) := by omega
      by_cases hkm2 : k < m
      · have hd : (k : Int) < (m : Int) := by omega
        go_wp2
        exact ⟨⟨k + 1, m, l, by omega, by omega, rfl, by go_num, HB, HR⟩, by simp [intOf]; omega⟩
      · obtain rfl : k = m := by omega
        have HX : Hid ((t.extract k t.size).data.toList = t.data.toList.drop k) := ext_list t k (by omega)
        have hsz : 0 < (t.extract k t.size).size := by simp; omega
        have Q := hid (byteAt_path (t.extract k t.size) w1 hsz)
        rw [HX.out] at Q
        generalize hu : t.extract k t.size = u at *
        cases hst : stE rwP (t.data.toList.drop k) with
        | none =>
          have HF : Hid (boE rwP t.data.toList = ([], 3)) := HR.out.fail (by omega) hst
          rw [hst] at Q
          clear HX hst HR hsz
          go_wp2_with fail
          refine Q.out.mono ?_
          rintro e w2 ⟨⟨y, n, ok, rfl, rfl⟩, hb⟩
          have HE : Hid (Below w.heap.size w w2) := HB.out.b.trans (hb.mono HB.out.b.size)
          clear hb Q HB
          go_wp2
          go_ret2
          exact ⟨by rw [HF.out]; rfl, HE.out⟩
        | some p =>
          obtain ⟨d, n⟩ := p
          have HN := hid (HR.out.next (by omega) hst)
          rw [hst] at Q
          clear hst HX hsz
          have hle := HR.out.2.1
          have hnn := HN.out.2
          have hnt := HN.out.1.1
          clear HR
          go_wp2_with fail
          refine Q.out.mono ?_
          rintro e w2 ⟨⟨y, nn, ok, rfl, rfl, rfl, rfl⟩, hb⟩
          have HB2 : Hid (BY w l w2) := ⟨HB.out.bd.keep hb, HB.out.b.trans (hb.mono HB.out.b.size)⟩
          have Q2 := hid (HB2.out.byte d _ rfl (by omega))
          clear hb Q HB HB2
          go_wp2_with fail
          refine Q2.out.mono ?_
          rintro e w3 ⟨rfl, HB3⟩
          clear Q2
          go_wp2
          exact ⟨⟨k + 1, k + n, l ++ [d], by omega, by omega, by go_num, by go_num, HB3, HN.out.1⟩, by simp [intOf]; omega⟩
    · have hd : decide ((k : Int) < (t.size : Int)) = false := decide_eq_false (by omega)
      have hd2 : decide (k < t.size) = false := decide_eq_false hlt
      have HF : Hid (boE rwP t.data.toList = (l, 0)) := HR.out.done (by omega)
      have Q := hid HB.out.str
      clear HB HR
      go_wp2_with fail
      refine Q.out.mono ?_
      rintro e w2 ⟨rfl, hb⟩
      have HE := hid hb
      clear Q hb
      go_wp2
      go_ret2
      exact ⟨by rw [HF.out]; rfl, HE.out⟩

set_option maxRecDepth 100000 in
set_option maxHeartbeats 2000000 in
theorem bytesOf_query (t : ByteArray) (w : World) (hs : t.size ≤ 1048576) : Calls Tryd.prog 23 #[.string t, .func (.func 51) #[] #[]] w fun e w' => e = .returned (.tuple #[.string ⟨(boE rwQ t.data.toList).1.toArray⟩, .int .i64 (boE rwQ t.data.toList).2]) ∧ Below w.heap.size w w' := by
  have HB0 : Hid (BY w [] (w.alloc (.cells #[.pointer none, .slice none 0 0] 68))) := BY.new w
  have HR0 := hid (RdA.start rwQ t.data.toList)
  have hL : t.data.toList.length = t.size := by simp
  go_enter Tryd.func23, Tryd.ntmps23
  go_wp2
  go_loopw [7, 14] (fun nx i wr => ∃ (k m : Nat) (l : List UInt8), k ≤ m ∧ k ≤ t.size ∧ nx = .int .i64 m ∧ i = .int .i64 k ∧ Hid (BY w l wr) ∧ Hid (RdA rwQ t.data.toList l m)) (fun _ i _ => t.size - (intOf i).toNat)
  case atStart => exact ⟨0, 0, [], by omega, by omega, rfl, rfl, HB0, HR0⟩
  case round =>
    clear HB0 HR0
    obtain ⟨k, m, l, hkm, hkt, rfl, rfl, HB, HR⟩ := hrel
    rename World => w1
    have hmt : m ≤ t.size := by have := HR.out.1; omega
    by_cases hlt : k < t.size
    · have hk0 : (0 : Int) ≤ (k : Int) := by omega
      have hk1 : (k : Int) < (t.size : Int) := by omega
      have hk2 : (k : Int) ≤ (t.size : Int) := by omega
      by_cases hkm2 : k < m
      · have hd : (k : Int) < (m : Int) := by omega
        go_wp2
        exact ⟨⟨k + 1, m, l, by omega, by omega, rfl, by go_num, HB, HR⟩, by simp [intOf]; omega⟩
      · obtain rfl : k = m := by omega
        have HX : Hid ((t.extract k t.size).data.toList = t.data.toList.drop k) := ext_list t k (by omega)
        have hsz : 0 < (t.extract k t.size).size := by simp; omega
        have Q := hid (byteAt_query (t.extract k t.size) w1 hsz)
        rw [HX.out] at Q
        generalize hu : t.extract k t.size = u at *
        cases hst : stE rwQ (t.data.toList.drop k) with
        | none =>
          have HF : Hid (boE rwQ t.data.toList = ([], 3)) := HR.out.fail (by omega) hst
          rw [hst] at Q
          clear HX hst HR hsz
          go_wp2_with fail
          refine Q.out.mono ?_
          rintro e w2 ⟨⟨y, n, ok, rfl, rfl⟩, hb⟩
          have HE : Hid (Below w.heap.size w w2) := HB.out.b.trans (hb.mono HB.out.b.size)
          clear hb Q HB
          go_wp2
          go_ret2
          exact ⟨by rw [HF.out]; rfl, HE.out⟩
        | some p =>
          obtain ⟨d, n⟩ := p
          have HN := hid (HR.out.next (by omega) hst)
          rw [hst] at Q
          clear hst HX hsz
          have hle := HR.out.2.1
          have hnn := HN.out.2
          have hnt := HN.out.1.1
          clear HR
          go_wp2_with fail
          refine Q.out.mono ?_
          rintro e w2 ⟨⟨y, nn, ok, rfl, rfl, rfl, rfl⟩, hb⟩
          have HB2 : Hid (BY w l w2) := ⟨HB.out.bd.keep hb, HB.out.b.trans (hb.mono HB.out.b.size)⟩
          have Q2 := hid (HB2.out.byte d _ rfl (by omega))
          clear hb Q HB HB2
          go_wp2_with fail
          refine Q2.out.mono ?_
          rintro e w3 ⟨rfl, HB3⟩
          clear Q2
          go_wp2
          exact ⟨⟨k + 1, k + n, l ++ [d], by omega, by omega, by go_num, by go_num, HB3, HN.out.1⟩, by simp [intOf]; omega⟩
    · have hd : decide ((k : Int) < (t.size : Int)) = false := decide_eq_false (by omega)
      have hd2 : decide (k < t.size) = false := decide_eq_false hlt
      have HF : Hid (boE rwQ t.data.toList = (l, 0)) := HR.out.done (by omega)
      have Q := hid HB.out.str
      clear HB HR
      go_wp2_with fail
      refine Q.out.mono ?_
      rintro e w2 ⟨rfl, hb⟩
      have HE := hid hb
      clear Q hb
      go_wp2
      go_ret2
      exact ⟨by rw [HF.out]; rfl, HE.out⟩

set_option maxRecDepth 100000 in
set_option maxHeartbeats 1000000 in
theorem unpath_any (t : ByteArray) (w : World) (hs : t.size ≤ 1048576) : Calls Tryd.prog 9 #[.string t] w fun e w' => e = .returned (.tuple #[.string ⟨(boE rwP t.data.toList).1.toArray⟩, .int .i64 (boE rwP t.data.toList).2]) ∧ Below w.heap.size w w' := by
  have Q := hid (bytesOf_path t w hs)
  go_enter Tryd.func9, Tryd.ntmps9
  go_wp2_with fail
  refine Q.out.mono ?_
  rintro e w2 ⟨rfl, hb⟩
  have HE := hid hb
  clear Q hb
  go_wp2
  go_ret2
  exact ⟨rfl, HE.out⟩
end Go.Proofs.YtnohkhgoejjfhaaDoor
