/- strings.Index, Cut and Count at a sign of one byte. -/
import Derived.Test.YtnohkhgoejjfhaaDoorPeM
import Derived.Test.YtnohkhgoejjfhaaDoorBase
import Derived.Test.YtnohkhgoejjfhaaDoorHidM
import Derived.Lib.Bytealg
import Derived.BigQuiet
namespace Go.Proofs.YtnohkhgoejjfhaaDoor
open Go.RowKit
set_option linter.unusedVariables false
set_option linter.unusedSimpArgs false

/-- where a sign stands first -/
theorem ix_none (b : UInt8) (l : List UInt8) (h : Lib.indexByte l b = -1) : ∀ x ∈ l, x ≠ b := by
  induction l with
  | nil => intro x hx; cases hx
  | cons c r ih =>
    rw [Lib.indexByte] at h
    split at h
    · omega
    · rename_i hc
      split at h
      · rename_i h1
        intro x hx
        rcases List.mem_cons.1 hx with rfl | hx
        · simpa using hc
        · exact ih (by simpa using h1) x hx
      · have := Lib.indexByte_ge r b; omega
theorem ix_some (b : UInt8) (l : List UInt8) (h : ¬ Lib.indexByte l b = -1) : ∃ i : Nat, Lib.indexByte l b = (i : Int) ∧ i < l.length ∧ l = l.take i ++ b :: l.drop (i + 1) ∧ ∀ x ∈ l.take i, x ≠ b := by
  induction l with
  | nil => exact absurd rfl h
  | cons c r ih =>
    rw [Lib.indexByte] at h ⊢
    split
    · rename_i hc
      refine ⟨0, rfl, by simp, ?_, by simp⟩
      have : c = b := by simpa using hc
      simp [this]
    · rename_i hc
      rw [if_neg hc] at h
      split
      · rename_i h1; rw [if_pos h1] at h; exact absurd rfl h
      · rename_i h1
        obtain ⟨i, e1, e2, e3, e4⟩ := ih (by simpa using h1)
        refine ⟨i + 1, by rw [e1]; rfl, by simp; omega, ?_, ?_⟩
        · simp only [List.take_succ_cons, List.drop_succ_cons, List.cons_append]
          exact congrArg (c :: ·) e3
        · intro x hx
          rw [List.take_succ_cons] at hx
          rcases List.mem_cons.1 hx with rfl | hx
          · simpa using hc
          · exact e4 x hx
theorem ix_split (b : UInt8) (l : List UInt8) : (Lib.indexByte l b = -1 ∧ splitB b l = [l] ∧ cutB b l = (l, [])) ∨ ∃ i : Nat, Lib.indexByte l b = (i : Int) ∧ i < l.length ∧ splitB b l = l.take i :: splitB b (l.drop (i + 1)) ∧ cutB b l = (l.take i, l.drop (i + 1)) := by
  by_cases h : Lib.indexByte l b = -1
  · exact .inl ⟨h, splitB_no b l (ix_none b l h), cutB_no b l (ix_none b l h)⟩
  · obtain ⟨i, e1, e2, e3, e4⟩ := ix_some b l h
    refine .inr ⟨i, e1, e2, ?_, ?_⟩
    · have := splitB_app b (l.take i) (l.drop (i + 1)) e4
      rw [← e3] at this; exact this
    · have := cutB_app b (l.take i) (l.drop (i + 1)) e4
      rw [← e3] at this; exact this
theorem count_split (b : UInt8) (l : List UInt8) : (splitB b l).length = Lib.countByte l b + 1 := by
  induction l with
  | nil => rfl
  | cons c r ih =>
    unfold Lib.countByte at *
    rw [splitB, List.count_cons]
    by_cases h : c = b
    · rw [if_pos h]; simp [h, ih]
    · rw [if_neg h]
      have h2 : (c == b) = false := by simpa using h
      rw [h2]
      cases hs : splitB b r with
      | nil => exact absurd hs (splitB_ne b r)
      | cons x q => rw [hs] at ih; simpa using ih
theorem ext_all (t : ByteArray) (i j : Nat) (hj : j ≤ t.size) : t.extract i j = ⟨((t.data.toList.take j).drop i).toArray⟩ := by
  rw [ByteArray.ext_iff, ByteArray.data_extract]
  apply Array.ext'
  rw [Array.toList_extract]
  simp [List.extract, List.drop_take]
theorem ext_take (t : ByteArray) (i : Nat) (hi : i ≤ t.size) : t.extract 0 i = ⟨(t.data.toList.take i).toArray⟩ := by rw [ext_all t 0 i hi]; rfl
theorem ext_drop (t : ByteArray) (i : Nat) : t.extract i t.size = ⟨(t.data.toList.drop i).toArray⟩ := by
  rw [ext_all t i t.size (Nat.le_refl _), List.take_of_length_le (by simp)]

set_option maxRecDepth 100000 in
set_option maxHeartbeats 1000000 in
theorem indexByte_any (s : ByteArray) (c : UInt8) (w : World) : Calls Tryd.prog 62 #[.string s, .int .u8 (c.toNat : Int)] w fun e w' => e = .returned (.int .i64 (Lib.indexByte s.data.toList c)) ∧ w' = w := by
  have hc : ((c.toNat : Int).toNat).toUInt8 = c := by simp
  go_enter Tryd.func62, Tryd.ntmps62
  go_wp2
  rw [run_callFunc_extern Tryd.func67 (by kernel_rfl) (by kernel_rfl) (by kernel_rfl) (e := Extern.BytealgIndexByte.indexByte) (by kernel_rfl), Lib.run_indexByteString]
  simp only [Result.andThen]
  rw [Oper.upon_value]
  go_wp2
  go_ret
  exact ⟨rfl, rfl⟩
theorem one_size (b : UInt8) : (⟨#[b]⟩ : ByteArray).size = 1 := rfl
set_option maxRecDepth 100000 in
set_option maxHeartbeats 1000000 in
theorem sindex_any (s : ByteArray) (b : UInt8) (w : World) (hs : s.size ≤ 1099511627776) : Calls Tryd.prog 56 #[.string s, .string ⟨#[b]⟩] w fun e w' => e = .returned (.int .i64 (Lib.indexByte s.data.toList b)) ∧ w' = w := by
  have Q := hid (indexByte_any s b w)
  have HX : Hid (s = ⟨#[b]⟩ → Lib.indexByte s.data.toList b = 0) := fun e => by rw [e]; simp [Lib.indexByte]
  have hz : ((⟨#[b]⟩ : ByteArray).size : Int) = 1 := rfl
  have h0 : (0 : Int) ≤ 0 := by omega
  have HI : Hid (∀ W, (Instr.index 9 (.string ⟨#[b]⟩) (.int .i64 0)).run Tryd.prog W = .ok (.int .u8 (b.toNat : Int)) W) := fun W => by
    rw [run_index_string (P := Tryd.prog) (w := W) 9 ⟨#[b]⟩ .i64 0 Tryd.underlying9, dif_pos ⟨by omega, by show (0 : Int) < 1; omega⟩]
    rfl
  have hI := HI.out
  by_cases e : s = ⟨#[b]⟩
  · have HR := hid (HX.out e)
    have hb : (ByteArray.toList ⟨#[b]⟩ == s.toList) = true := by rw [e]; simp
    rw [HR.out]
    generalize (⟨#[b]⟩ : ByteArray) = sep at *
    clear e Q HX HR
    go_enter Tryd.func56, Tryd.ntmps56
    go_wp2
    go_ret
    exact ⟨rfl, rfl⟩
  · have hb : (ByteArray.toList ⟨#[b]⟩ == s.toList) = false := by
      rw [beq_eq_false_iff_ne]
      intro h
      exact e (by
        rw [ByteArray.toList_eq, ByteArray.toList_eq] at h
        have := congrArg List.toArray h
        cases s; simp_all)
    generalize (⟨#[b]⟩ : ByteArray) = sep at *
    clear e HX
    generalize Lib.indexByte s.data.toList b = R at *
    go_enter Tryd.func56, Tryd.ntmps56
    go_wp2_with fail
    refine Q.out.mono ?_
    rintro e w1 ⟨rfl, rfl⟩
    go_wp2
    go_ret
    exact ⟨rfl, rfl⟩

set_option maxRecDepth 100000 in
theorem index_any (s : ByteArray) (b : UInt8) (w : World) (hs : s.size ≤ 1099511627776) : Calls Tryd.prog 48 #[.string s, .string ⟨#[b]⟩] w fun e w' => e = .returned (.int .i64 (Lib.indexByte s.data.toList b)) ∧ w' = w := by
  have Q := hid (sindex_any s b w hs)
  generalize Lib.indexByte s.data.toList b = R at *
  go_enter Tryd.func48, Tryd.ntmps48
  go_wp2_with fail
  refine Q.out.mono ?_
  rintro e w1 ⟨rfl, rfl⟩
  go_wp2
  go_ret
  exact ⟨rfl, rfl⟩
set_option maxRecDepth 100000 in
set_option maxHeartbeats 1000000 in
theorem count_any (s : ByteArray) (b : UInt8) (w : World) : Calls Tryd.prog 33 #[.string s, .string ⟨#[b]⟩] w fun e w' => e = .returned (.int .i64 (Lib.countByte s.data.toList b : Nat)) ∧ w' = w := by
  have hz : ((⟨#[b]⟩ : ByteArray).size : Int) = 1 := rfl
  have hI : ∀ W, (Instr.index 9 (.string ⟨#[b]⟩) (.int .i64 0)).run Tryd.prog W = .ok (.int .u8 (b.toNat : Int)) W := fun W => by
    rw [run_index_string (P := Tryd.prog) (w := W) 9 ⟨#[b]⟩ .i64 0 Tryd.underlying9, dif_pos ⟨by omega, by show (0 : Int) < 1; omega⟩]
    rfl
  generalize (⟨#[b]⟩ : ByteArray) = sep at *
  go_enter Tryd.func33, Tryd.ntmps33
  go_wp2
  rw [run_callFunc_extern Tryd.func47 (by kernel_rfl) (by kernel_rfl) (by kernel_rfl) (e := Extern.BytealgCount.count) (by kernel_rfl), Lib.run_countString]
  simp only [Result.andThen]
  rw [Oper.upon_value]
  go_wp2
  go_ret
  exact ⟨by simp, rfl⟩
/-- what strings.Cut answers at a sign -/
def cutR (b : UInt8) (s : List UInt8) : Value := .tuple #[.string ⟨(cutB b s).1.toArray⟩, .string ⟨(cutB b s).2.toArray⟩, .bool (decide (¬ Lib.indexByte s b = -1))]
set_option maxRecDepth 100000 in
set_option maxHeartbeats 1000000 in
theorem scut_any (s : ByteArray) (b : UInt8) (w : World) (hs : s.size ≤ 1048576) : Calls Tryd.prog 59 #[.string s, .string ⟨#[b]⟩] w fun e w' => e = .returned (cutR b s.data.toList) ∧ Below w.heap.size w w' := by
  have Q := hid (sindex_any s b w (by omega))
  have hz : ((⟨#[b]⟩ : ByteArray).size : Int) = 1 := rfl
  have hl : s.data.toList.length = s.size := by simp
  rcases ix_split b s.data.toList with ⟨h1, _, h3⟩ | ⟨i, h1, h2, _, h3⟩
  · have HF : Hid (cutR b s.data.toList = .tuple #[.string s, .string ⟨#[]⟩, .bool false]) := by
      show cutR _ _ = _
      unfold cutR; rw [h3, h1]; rfl
    have HE := hid (Below.refl w.heap.size w)
    rw [h1] at Q
    generalize (⟨#[b]⟩ : ByteArray) = sep at *
    clear h1 h3 hl hz
    go_enter Tryd.func59, Tryd.ntmps59
    go_wp2_with fail
    refine Q.out.mono ?_
    rintro e w1 ⟨rfl, rfl⟩
    go_wp2
    go_ret3
    exact ⟨by rw [HF.out]; rfl, HE.out⟩
  · have HF : Hid (cutR b s.data.toList = .tuple #[.string (s.extract 0 i), .string (s.extract (i + 1) s.size), .bool true]) := by
      show cutR _ _ = _
      unfold cutR; rw [h3, h1, ext_take s i (by omega), ext_drop s (i + 1), decide_eq_true (by omega)]
    have HE : Hid (∀ n, Below w.heap.size w (w.drewN n)) := fun n => below_drewN (Below.refl _ _) n
    have hd : decide ((0 : Int) ≤ (i : Int)) = true := decide_eq_true (by omega)
    have a1 : (0 : Int) ≤ (i : Int) := by omega
    have a2 : (i : Int) ≤ (s.size : Int) := by omega
    have a3 : (0 : Int) ≤ ((i + 1 : Nat) : Int) := by omega
    have a4 : ((i + 1 : Nat) : Int) ≤ (s.size : Int) := by omega
    have hw : wrap64 ((i : Int) + 1) = ((i + 1 : Nat) : Int) := by rw [IntWalk.wrap64_in _ (by omega)]; omega
    have hw2 : IntKind.i64.wrap ((i : Int) + 1) = ((i + 1 : Nat) : Int) := by rw [IntKind.wrap_i64]; omega
    rw [h1] at Q
    generalize (⟨#[b]⟩ : ByteArray) = sep at *
    clear h1 h3 hl h2 hs
    go_enter Tryd.func59, Tryd.ntmps59
    go_wp2_with fail
    refine Q.out.mono ?_
    rintro e w1 ⟨rfl, rfl⟩
    go_wp2
    go_quiet (fail)
    go_wp2
    go_ret3
    exact ⟨by rw [HF.out]; rfl, HE.out _⟩
set_option maxRecDepth 100000 in
theorem cut_any (s : ByteArray) (b : UInt8) (w : World) (hs : s.size ≤ 1048576) : Calls Tryd.prog 50 #[.string s, .string ⟨#[b]⟩] w fun e w' => e = .returned (cutR b s.data.toList) ∧ Below w.heap.size w w' := by
  have Q := hid (scut_any s b w hs)
  unfold cutR at *
  generalize Value.string ⟨(cutB b s.data.toList).1.toArray⟩ = R1 at *
  generalize Value.string ⟨(cutB b s.data.toList).2.toArray⟩ = R2 at *
  generalize decide (¬ Lib.indexByte s.data.toList b = -1) = R3 at *
  go_enter Tryd.func50, Tryd.ntmps50
  go_wp2_with fail
  refine Q.out.mono ?_
  rintro e w1 ⟨rfl, hb⟩
  have HE := hid hb
  clear Q hb
  go_wp2
  go_ret3
  exact ⟨rfl, HE.out⟩
end Go.Proofs.YtnohkhgoejjfhaaDoor
