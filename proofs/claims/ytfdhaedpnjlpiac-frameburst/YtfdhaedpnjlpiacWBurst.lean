/- The walk of the law FrameBurst: whatever the input, it answers true. -/
import Derived.Test.YtfdhaedpnjlpiacBurstM
import Derived.Test.YtfdhaedpnjlpiacRowAt
import Derived.Test.YtfdhaedpnjlpiacAwake2
namespace Go.Proofs.Ytfdhaedpnjlpiac
open Go.RowKit
set_option linter.unusedVariables false

theorem cut_at' (c : Int) (L : Nat) (hL : 1 ≤ L) : ∃ (r : Int) (k : Nat), c.tmod L = r ∧ -(L : Int) < r ∧ r < L ∧ (r + L) % L = k ∧ k < L := by
  have h1 : -(L : Int) < c.tmod L := by
    have := Int.lt_tmod_of_pos c (b := (L : Int)) (by omega)
    omega
  have h2 : c.tmod L < L := Int.tmod_lt_of_pos c (by omega)
  have h3 := Int.emod_nonneg (c.tmod L + L) (b := (L : Int)) (by omega)
  have h4 := Int.emod_lt_of_pos (c.tmod L + L) (b := (L : Int)) (by omega)
  exact ⟨_, ((c.tmod L + L) % L).toNat, rfl, h1, h2, by omega, by omega⟩

theorem xor8 (x : UInt8) (q : Nat) (hq : q < 8) : bits .xor .u8 (x.toNat : Int) (2 ^ q % 256) = ((UInt8.ofNat (x.toNat ^^^ 2 ^ q)).toNat : Int) := by
  have hx : x.toNat < 256 := UInt8.toNat_lt x
  have hp : (2 : Nat) ^ q < 256 := Nat.pow_lt_pow_right (a := 2) (n := 8) (by omega) hq
  have h2 : (2 : Int) ^ q = ((2 ^ q : Nat) : Int) := by simp
  rw [h2]
  have hx2 : x.toNat ^^^ 2 ^ q < 256 := Nat.xor_lt_two_pow (n := 8) hx hp
  rw [ofNat_small _ hx2]
  generalize 2 ^ q = y at hp hx2
  rw [show ((y : Int) % 256) = (y : Int) by omega]
  show IntKind.u8.wrap ((BitVec.ofInt 8 (x.toNat : Int) ^^^ BitVec.ofInt 8 (y : Int)).toNat : Int) = _
  rw [BitVec.toNat_xor, BitVec.ofInt_natCast, BitVec.ofInt_natCast, BitVec.toNat_ofNat, BitVec.toNat_ofNat, Nat.mod_eq_of_lt hx, Nat.mod_eq_of_lt hp, IntKind.wrap_u8]
  omega

set_option maxRecDepth 100000 in
set_option maxHeartbeats 1600000 in
theorem frameBurst_ok (b : ByteArray) (c : Int) (u : Nat) (w : World) (hl : b.size ≤ 262144) (hpos : 1 ≤ b.size) (hc : -9223372036854775808 ≤ c ∧ c ≤ 9223372036854775807) (hu : u < 4294967296) :
    Calls Try.prog 3 #[.string b, .int .i64 c, .int .u32 u] w fun e w' => e = .returned (.bool true) ∧ Below w.heap.size w w' := by
  have HF := show Hid _ from fun w => frame_ok b w hl
  have hlen := frm_len b.data.toList
  have hbl : b.data.toList.length = b.size := by simp
  rw [hbl] at hlen
  have hfs : (ByteArray.mk (frm b.data.toList).toArray).size = 8 + b.size := by show (frm b.data.toList).toArray.size = _; simp [hlen]
  have HFL := show Hid ((ByteArray.mk (frm b.data.toList).toArray).data.toList = frm b.data.toList) from by show _ = _; simp
  generalize ByteArray.mk (frm b.data.toList).toArray = f at HF hfs HFL
  have h00 : ((b.size : Int) == 0) = false := by rw [beq_eq_false_iff_ne]; omega
  have hneq : ((f.size : Int) != 8 + (b.size : Int)) = false := by rw [bne_eq_false_iff_eq]; omega
  obtain ⟨r, k, hr, hr1, hr2, hk, hkl⟩ := cut_at' c (8 * b.size) (by omega)
  have e8 : ((8 * b.size : Nat) : Int) = 8 * (b.size : Int) := by omega
  rw [e8] at hr hr1 hr2 hk
  have HFS := show Hid _ from hfs
  clear hlen hbl hfs e8
  go_enter Try.func3, Try.ntmps3
  go_wp2_with fail
  refine (HF.out _).mono ?_
  rintro e w1 ⟨rfl, hB1⟩
  obtain ⟨cap, w2, hrow, hcap, hR, hB2⟩ := row_made w1 f
  generalize hg : w1.heap.size = g at hrow hR hB2
  go_wp2
  generalize (r + 8 * (b.size : Int)) % (8 * (b.size : Int)) = z at hk ⊢
  subst hk
  clear hr hr1 hr2 hrow
  obtain ⟨H8, hH8, HFR⟩ : ∃ H8 : List UInt8, H8.length = 8 ∧ Hid (frm b.data.toList = H8 ++ b.data.toList) :=
    ⟨be b.data.toList.length 4 ++ be (sumN (be b.data.toList.length 4 ++ b.data.toList)) 4, by simp [be_len], by show frm _ = _; rw [frm, List.append_assoc]⟩
  have hR0 : RowAt w2 g (H8 ++ b.data.toList) := by rw [← HFR.out, ← HFL.out]; exact hR
  have hB12 : Below w.heap.size w w2 := hB1.trans ((by rw [hg]; exact hB2 : Below w1.heap.size w1 w2).mono hB1.size)
  have hwg : w.heap.size ≤ g := by rw [← hg]; exact hB1.size
  have hfsz := HFS.out
  clear hR hB1 hB2
  go_loopw [12] (fun i wr => ∃ (j V : Nat) (M : List UInt8), i = .int .i64 j ∧ j ≤ 32 ∧ RowAt wr g (H8 ++ M) ∧ Below w.heap.size w wr ∧ Hid (M.length = b.size) ∧ Hid (V < 2 ^ j) ∧ Hid (leN M = leN b.data.toList ^^^ V * 2 ^ k)) (fun i _ => 32 - (intOf i).toNat)
  case atStart => exact ⟨0, 0, b.data.toList, rfl, by omega, hR0, hB12, (by show _ = _; simp), (by show 0 < 2 ^ 0; simp), (by show _ = _; simp)⟩
  case round =>
    clear hR0 hB12
    obtain ⟨j, V, M, rfl, hj, hRow, hB, hM, hV, hLE⟩ := hrel
    by_cases hlt : j < 32
    · by_cases hin : k + j < 8 * b.size
      · have hin' : (k : Int) + j < 8 * b.size := by omega
        cases hbit : (bits .and .u32 ((u : Int) / 2 ^ j) 1 == 1) with
        | true =>
          have hq : (k + j) / 8 < M.length := by rw [hM.out]; omega
          have hcell := hRow.cell (8 + (k + j) / 8) (by rw [List.length_append, hH8]; omega)
          have hfz := hRow.frozen (8 + (k + j) / 8) (by rw [List.length_append, hH8]; omega)
          have hget : (H8 ++ M)[8 + (k + j) / 8]'(by rw [List.length_append, hH8]; omega) = M[(k + j) / 8] := by
            rw [List.getElem_append_right (by omega)]; simp [hH8]
          rw [hget] at hcell
          have hturn := leN_turn M ((k + j) / 8) ((k + j) % 8) hq (Nat.mod_lt _ (by omega))
          generalize M[(k + j) / 8] = x at hcell hturn
          have hst := hRow.stored (8 + (k + j) / 8) (by rw [List.length_append, hH8]; omega) (UInt8.ofNat (x.toNat ^^^ 2 ^ ((k + j) % 8))) (xor8 x ((k + j) % 8) (Nat.mod_lt _ (by omega)))
          rw [List.set_append_right _ _ (by omega), hH8, show 8 + (k + j) / 8 - 8 = (k + j) / 8 by omega] at hst
          have hB' := hB.setCell (p := ⟨g, 8 + (k + j) / 8, none⟩) hwg (.int .u8 (bits .xor .u8 (x.toNat : Int) (2 ^ ((k + j) % 8) % 256)))
          have HLE : Hid (leN (M.set ((k + j) / 8) (UInt8.ofNat (x.toNat ^^^ 2 ^ ((k + j) % 8)))) = leN b.data.toList ^^^ (V ^^^ 2 ^ j) * 2 ^ k) := by
            show _ = _
            rw [hturn, hLE.out, Nat.xor_assoc, show 8 * ((k + j) / 8) + (k + j) % 8 = j + k by omega, mul_xor, ← Nat.pow_add]
          have HV : Hid (V ^^^ 2 ^ j < 2 ^ (j + 1)) := Nat.xor_lt_two_pow (Nat.lt_trans hV.out (Nat.pow_lt_pow_right (by omega) (by omega))) (Nat.pow_lt_pow_right (by omega) (by omega))
          have HML : Hid ((M.set ((k + j) / 8) (UInt8.ofNat (x.toNat ^^^ 2 ^ ((k + j) % 8)))).length = b.size) := by show _ = _; rw [List.length_set]; exact hM.out
          generalize M.set ((k + j) / 8) (UInt8.ofNat (x.toNat ^^^ 2 ^ ((k + j) % 8))) = M' at hst HLE HML
          clear hget hturn hRow hB hLE
          go_wp2
          go_roundw
          case rel => exact ⟨j + 1, _, M', by go_num, by omega, hst, hB', HML, HV, HLE⟩
          case measure => simp [intOf]; omega
        | false =>
          go_wp2
          go_roundw
          case rel => exact ⟨j + 1, V, M, by go_num, by omega, hRow, hB, hM, (by show V < 2 ^ (j + 1); have := hV.out; rw [Nat.pow_succ]; omega), hLE⟩
          case measure => simp [intOf]; omega
      · have hin' : 8 * (b.size : Int) ≤ (k : Int) + j := by omega
        have hdc : decide ((k : Int) + j < 8 * (b.size : Int)) = false := by simp; omega
        go_wp2
        go_roundw
        case rel => exact ⟨j + 1, V, M, by go_num, by omega, hRow, hB, hM, (by show V < 2 ^ (j + 1); have := hV.out; rw [Nat.pow_succ]; omega), hLE⟩
        case measure => simp [intOf]; omega
    · have hj32 : j = 32 := by omega
      subst hj32
      have hHM : (H8 ++ M).length = f.size := by rw [List.length_append, hH8, hM.out]; omega
      have htx := hRow.text cap
      rw [hHM] at htx
      have hgl : g < wr.heap.size := by
        obtain ⟨C, lo, hi, hh, _⟩ := hRow
        rcases Nat.lt_or_ge g wr.heap.size with h | h
        · exact h
        · rw [Array.getElem?_eq_none h] at hh; cases hh
      have HRow := show Hid _ from hRow
      have HHM := show Hid _ from hHM
      by_cases hsame : M = b.data.toList
      · have hstr : (⟨(H8 ++ M).toArray⟩ : ByteArray) = f := by
          apply ba_eq; rw [HFL.out, HFR.out, hsame]
        rw [hstr] at htx
        have HST := show Hid _ from hstr
        have hun := unf_back f b [] [] hl (by rw [HFL.out]; simp)
        have HU := show Hid _ from fun w => unframe_any f 0 w (by omega)
        have hun' : unfAt f 0 = ⟨b, ((0 + 8 + b.size : Nat) : Int), 0⟩ := by simpa using hun
        rw [hun'] at HU
        simp only at HU
        generalize ((0 + 8 + b.size : Nat) : Int) = to at HU
        clear hun hun' hRow hsame hLE hV hM hfsz hHM hstr
        go_wp2_with fail
        refine (HU.out _).mono ?_
        rintro e w3 ⟨rfl, hB3⟩
        have htx3 := (RowAt.below HRow.out hgl hB3).text cap
        rw [HHM.out, HST.out] at htx3
        clear htx
        go_wp2_with fail
        refine (awake2 _).mono ?_
        rintro e w4 ⟨rfl, hB4⟩
        go_wp2
        go_ret
        have e3 := hB.trans (hB3.mono hB.size)
        exact ⟨rfl, e3.trans (hB4.mono e3.size)⟩
      · have hsz : (⟨(H8 ++ M).toArray⟩ : ByteArray).size ≤ 140737488355328 := by show (H8 ++ M).toArray.size ≤ _; rw [List.size_toArray, hHM]; omega
        have hne2 : (⟨(H8 ++ M).toArray⟩ : ByteArray) ≠ f := by
          intro h
          have h2 := congrArg (fun z : ByteArray => z.data.toList) h
          simp only [HFL.out, HFR.out] at h2
          exact hsame (List.append_cancel_left h2)
        have hbf := turned_found b M V k H8 hl (by have := hM.out; exact this) (by omega) (by have := hV.out; exact this) hLE.out hsame HFR.out
        have HU := show Hid _ from fun w => unframe_any ⟨(H8 ++ M).toArray⟩ 0 w hsz
        rw [hbf] at HU
        have HTX : Hid (∀ w, RowAt w g (H8 ++ M) → (convert 27 9 (.slice (some ⟨g, 0, none⟩) f.size cap)).run Try.prog w = .ok (.string ⟨(H8 ++ M).toArray⟩) w) := by
          show ∀ w, _
          intro w h
          have h2 := h.text cap
          rw [hHM] at h2; exact h2
        generalize (⟨(H8 ++ M).toArray⟩ : ByteArray) = y at HU htx hne2 HTX
        have hneb : (y.toList == f.toList) = false := by
          rw [beq_eq_false_iff_ne]
          intro h
          exact hne2 (toList_inj y f h)
        clear hRow hsame hLE hV hM hfsz hHM hbf hne2 hsz
        go_wp2_with fail
        refine (HU.out _).mono ?_
        rintro e w3 ⟨rfl, hB3⟩
        have htx3 := HTX.out w3 (RowAt.below HRow.out hgl hB3)
        clear htx
        go_wp2_with fail
        refine (awake2 _).mono ?_
        rintro e w4 ⟨rfl, hB4⟩
        go_wp2
        go_ret
        have e3 := hB.trans (hB3.mono hB.size)
        exact ⟨rfl, e3.trans (hB4.mono e3.size)⟩

set_option maxRecDepth 100000 in
set_option maxHeartbeats 400000 in
theorem frameBurst_long (b : ByteArray) (c u : Int) (w : World) (hl : ¬ b.size ≤ 262144) :
    Calls Try.prog 3 #[.string b, .int .i64 c, .int .u32 u] w fun e w' => e = .returned (.bool true) ∧ Below w.heap.size w w' := by
  have HF := show Hid _ from fun w => frame_long b w hl
  go_enter Try.func3, Try.ntmps3
  go_wp2_with fail
  refine (HF.out _).mono ?_
  rintro e w1 ⟨rfl, hB1⟩
  go_wp2_with fail
  refine (awake2 _).mono ?_
  rintro e w4 ⟨rfl, hB4⟩
  go_wp2
  go_ret
  exact ⟨rfl, hB1.trans (hB4.mono hB1.size)⟩

set_option maxRecDepth 100000 in
set_option maxHeartbeats 400000 in
theorem frameBurst_empty (b : ByteArray) (c u : Int) (w : World) (hl : b.size = 0) :
    Calls Try.prog 3 #[.string b, .int .i64 c, .int .u32 u] w fun e w' => e = .returned (.bool true) ∧ Below w.heap.size w w' := by
  have HF := show Hid _ from fun w => frame_ok b w (by omega)
  have h0 : ((b.size : Int) == 0) = true := by rw [beq_iff_eq]; omega
  generalize ByteArray.mk (frm b.data.toList).toArray = f at HF
  clear hl
  go_enter Try.func3, Try.ntmps3
  go_wp2_with fail
  refine (HF.out _).mono ?_
  rintro e w1 ⟨rfl, hB1⟩
  go_wp2_with fail
  refine (awake2 _).mono ?_
  rintro e w4 ⟨rfl, hB4⟩
  go_wp2
  go_ret
  exact ⟨rfl, hB1.trans (hB4.mono hB1.size)⟩

theorem frameBurst_walk (b : ByteArray) (c u : Int) (w : World) (hb : b.size ≤ reachBytes) (hc : (Lit.int .i64 c).wf = true) (hu : (Lit.int .u32 u).wf = true) :
    Calls Try.prog 3 #[.string b, .int .i64 c, .int .u32 u] w fun e w' => e = .returned (.bool true) ∧ Below w.heap.size w w' := by
  have hc' : -9223372036854775808 ≤ c ∧ c ≤ 9223372036854775807 := by simpa [Lit.wf, IntKind.min, IntKind.max, IntKind.signed, IntKind.bits] using hc
  have hu' : 0 ≤ u ∧ u ≤ 4294967295 := by simpa [Lit.wf, IntKind.min, IntKind.max, IntKind.signed, IntKind.bits] using hu
  by_cases hl : b.size ≤ 262144
  · by_cases h0 : b.size = 0
    · exact frameBurst_empty b c u w h0
    · obtain ⟨n, rfl⟩ := Int.eq_ofNat_of_zero_le hu'.1
      exact frameBurst_ok b c n w hl (by omega) hc' (by omega)
  · exact frameBurst_long b c u w hl
end Go.Proofs.Ytfdhaedpnjlpiac
