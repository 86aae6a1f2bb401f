/- The walk of the document's filling up of bytes. -/
import Derived.Test.YtedogofeibdjiaaGreatJoined02
import Derived.Test.YtedogofeibdjiaaGreatEight
namespace Go.Proofs.YtedogofeibdjiaaGreat
open Go.RowKit
set_option linter.unusedVariables false

/-- the first k bytes of eight -/
def e8p (n k : Nat) : List UInt8 := (be n 8).take k
theorem e8p_zero (n : Nat) : e8p n 0 = [] := by simp [e8p]
theorem e8p_all (n : Nat) : e8p n 8 = be n 8 := by unfold e8p; exact List.take_of_length_le (by rw [be_len]; omega)
theorem e8p_succ (n k : Nat) (h : k < 8) : e8p n (k + 1) = e8p n k ++ [UInt8.ofNat (n / 256 ^ (7 - k))] := by
  have hb := be_at n 8 k h
  have hk : k < (be n 8).length := by rw [be_len]; exact h
  have e : (be n 8)[k] = UInt8.ofNat (n / 256 ^ (7 - k)) := by
    have := List.getElem?_eq_getElem hk
    rw [hb] at this
    exact (Option.some.inj this).symm
  unfold e8p
  rw [List.take_succ_eq_append_getElem hk, e]
theorem e8p_len (n k : Nat) (h : k ≤ 8) : (e8p n k).length = k := by simp [e8p, be_len]; omega
/-- how many elements a slice has -/
def slen : Value → Nat
  | .slice _ n _ => n
  | _ => 0

set_option maxRecDepth 100000 in
set_option maxHeartbeats 1000000 in
theorem padded_any (s : ByteArray) (w : World) (hs : s.size + 73 ≤ 140737488355328) :
    Calls Tryz.prog 97 #[.string s] w fun e w' => ∃ v, e = .returned v ∧ BSl w' w.heap.size v (padL s.data.toList) ∧ Below w.heap.size w w' := by
  obtain ⟨v, w2, hcv, hrow, hB⟩ := brow_made w s
  have hn : s.data.toList.length = s.size := by simp
  obtain ⟨L0, hL0⟩ : ∃ L0, L0 = s.data.toList := ⟨_, rfl⟩
  obtain ⟨zz, hzz⟩ : ∃ zz, zz = (119 - s.size % 64) % 64 := ⟨_, rfl⟩
  obtain ⟨m, hm⟩ : ∃ m, m = 8 * s.size := ⟨_, rfl⟩
  have HP : Hid (padL s.data.toList = (L0 ++ 128 :: List.replicate zz 0) ++ be m 8) := by
    show _ = _
    rw [padL, tail, hn, hzz, hL0, hm, show 8 * s.size % 18446744073709551616 = 8 * s.size from Nat.mod_eq_of_lt (by omega)]; simp
  have hl0 : L0.length = s.size := by rw [hL0]; exact hn
  have hzl : zz < 64 := by omega
  have HZ : Hid ((s.size + 1 + zz) % 64 = 56) := by show _ = _; omega
  have HZ2 : Hid (∀ z, z < zz → (s.size + 1 + z) % 64 ≠ 56) := fun z hz => by omega
  have hmm : (s.size : Int) * 8 = (m : Int) := by omega
  have hm2 : (s.size : Int) * 8 ≤ 18446744073709551615 := by omega
  have hmb : m ≤ 18446744073709551615 := by omega
  rw [← hL0] at hrow
  have HB0 : Hid (BSl w2 w.heap.size v L0) := .inr hrow
  have HBE : Hid (Below w.heap.size w w2) := hB
  have HSZ : Hid (w.heap.size ≤ w2.heap.size) := hB.size
  have HLL : Hid (L0.length + [(128 : UInt8)].length ≤ 140737488355328) := by show _ ≤ _; simp; omega
  have HMN : Hid ([(128 : UInt8)] ≠ []) := by show _ ≠ _; simp
  have HM1 : Hid (#[Value.int .u8 128] = (bs [(128 : UInt8)]).toArray) := rfl
  have HL1 : Hid (1 = [(128 : UInt8)].length) := rfl
  have Hl0 := show Hid _ from hl0
  clear hrow hB hn hzz hm hL0 hl0
  go_enter Tryz.func97, Tryz.ntmps97
  go_wp2_with (at_builtin; refine wpl_bsl rfl _ _ rfl w.heap.size _ L0 w2 [128] _ HM1.out rfl 1 HL1.out rfl rfl HB0.out HSZ.out HLL.out HMN.out ?_; intro v1 w3 hb1 hbel1)
  have HB1 : Hid (BSl w3 w.heap.size v1 (L0 ++ 128 :: List.replicate 0 0)) := hb1
  have HE1 : Hid (Below w.heap.size w w3) := HBE.out.trans hbel1
  clear hb1 hbel1 HM1 HL1 HB0 HSZ HLL HMN HBE hcv
  go_loopw [3] (fun v wr => ∃ z : Nat, z ≤ zz ∧ Hid (BSl wr w.heap.size v (L0 ++ 128 :: List.replicate z 0)) ∧ Hid (Below w.heap.size w wr)) (fun v _ => s.size + 66 - slen v)
  case atStart => exact ⟨0, by omega, HB1, HE1⟩
  case round =>
    clear HB1 HE1
    obtain ⟨z, hz, HB, HE⟩ := hrel
    obtain ⟨ad, cap, hv⟩ := HB.out.size
    have hlen : (L0 ++ 128 :: List.replicate z (0 : UInt8)).length = s.size + 1 + z := by simp [Hl0.out]; omega
    rw [hlen] at hv
    subst hv
    by_cases hlt : z < zz
    · have hb : (((s.size : Int) + 1 + (z : Int)) % 64 != 56) = true := by
        have := HZ2.out z hlt
        rw [bne_iff_ne]; omega
      have HM1 : Hid (#[Value.int .u8 0] = (bs [(0 : UInt8)]).toArray) := rfl
      have HL1 : Hid (1 = [(0 : UInt8)].length) := rfl
      have HSZ : Hid (w.heap.size ≤ wr.heap.size) := HE.out.size
      have HLL : Hid ((L0 ++ 128 :: List.replicate z (0 : UInt8)).length + [(0 : UInt8)].length ≤ 140737488355328) := by show _ ≤ _; rw [hlen]; simp; omega
      have HMN : Hid ([(0 : UInt8)] ≠ []) := by show _ ≠ _; simp
      have HLA : Hid ((L0 ++ 128 :: List.replicate z (0 : UInt8)) ++ [0] = L0 ++ 128 :: List.replicate (z + 1) 0) := by show _ = _; rw [List.replicate_succ']; simp
      generalize (L0 ++ 128 :: List.replicate z (0 : UInt8)) = L at HB HLL HLA
      clear hlen
      go_wp2_with (at_builtin; refine wpl_bsl rfl _ _ rfl w.heap.size _ L wr [0] _ HM1.out rfl 1 HL1.out rfl rfl HB.out HSZ.out HLL.out HMN.out ?_; intro v1 w3 hb1 hbel1)
      have HB2 : Hid (BSl w3 w.heap.size v1 (L0 ++ 128 :: List.replicate (z + 1) 0)) := by rw [← HLA.out]; exact hb1
      have hsl : slen v1 = s.size + 1 + (z + 1) := by
        obtain ⟨ad2, cap2, e⟩ := HB2.out.size
        rw [e]; simp [slen, Hl0.out]; omega
      exact ⟨⟨z + 1, by omega, HB2, HE.out.trans hbel1⟩, by rw [hsl]; simp [slen]; omega⟩
    · have hb : (((s.size : Int) + 1 + (z : Int)) % 64 != 56) = false := by
        have := HZ.out
        rw [bne_eq_false_iff_eq]; omega
      have ez : z = zz := by omega
      have HB' : Hid (BSl wr w.heap.size (.slice ad (s.size + 1 + z) cap) ((L0 ++ 128 :: List.replicate zz 0) ++ e8p m 0)) := by rw [e8p_zero, List.append_nil, ← ez]; exact HB
      have hlz : (L0 ++ 128 :: List.replicate zz (0 : UInt8)).length ≤ s.size + 65 := by simp [Hl0.out]; omega
      have HLz := show Hid _ from hlz
      clear hlen hlz
      generalize (L0 ++ 128 :: List.replicate zz (0 : UInt8)) = L at HB' HP HLz
      clear HB ez hlt hz HZ HZ2
      go_wp2
      go_loopw [3, 5] (fun v i wr => ∃ j : Nat, j ≤ 8 ∧ i = .int .i64 (56 - 8 * (j : Int)) ∧ Hid (BSl wr w.heap.size v (L ++ e8p m j)) ∧ Hid (Below w.heap.size w wr)) (fun _ i _ => (intOf i + 8).toNat)
      case atStart => exact ⟨0, by omega, rfl, HB', HE⟩
      case round =>
        clear HB' HE
        obtain ⟨j, hj, rfl, HB, HE⟩ := hrel
        by_cases hlt : j < 8
        · have h56 : (0 : Int) ≤ 56 - 8 * (j : Int) := by omega
          have hle : 56 - 8 * (j : Int) ≤ 56 := by omega
          have HS := show Hid _ from e8p_succ m j hlt
          have hc := byte_shr m j hlt
          generalize UInt8.ofNat (m / 256 ^ (7 - j)) = c at HS hc
          have HM1 : Hid (#[Value.int .u8 ((m : Int) / 2 ^ (56 - 8 * j) % 256)] = (bs [c]).toArray) := by show _ = _; rw [hc]; rfl
          have HL1 : Hid (1 = [c].length) := rfl
          have HSZ : Hid (w.heap.size ≤ wr.heap.size) := HE.out.size
          have HLL : Hid ((L ++ e8p m j).length + [c].length ≤ 140737488355328) := by have := HLz.out; show _ ≤ _; rw [List.length_append, e8p_len m j hj]; simp; omega
          have HMN : Hid ([c] ≠ []) := by show _ ≠ _; simp
          clear hc
          go_wp2_with (at_builtin; refine wpl_bsl rfl _ _ rfl w.heap.size _ (L ++ e8p m j) wr [c] _ HM1.out rfl 1 HL1.out rfl rfl HB.out HSZ.out HLL.out HMN.out ?_; intro v1 w3 hb1 hbel1)
          exact ⟨⟨j + 1, by omega, congrArg (Value.int .i64) (by omega), by rw [HS.out, ← List.append_assoc]; exact hb1, HE.out.trans hbel1⟩, by simp [intOf]; omega⟩
        · have hd : decide (8 * (j : Int) ≤ 56) = false := decide_eq_false (by omega)
          have hd2 : ¬ (8 * (j : Int) ≤ 56) := by omega
          have e8 : j = 8 := by omega
          rw [e8, e8p_all] at HB
          clear e8 hlt hj
          go_wp2
          go_ret
          exact ⟨_, rfl, by rw [HP.out]; exact HB.out, HE.out⟩
end Go.Proofs.YtedogofeibdjiaaGreat
