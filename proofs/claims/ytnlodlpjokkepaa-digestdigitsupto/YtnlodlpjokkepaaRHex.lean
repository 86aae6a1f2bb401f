/- The walk of the reference's Hex. -/
import Derived.Test.YtnlodlpjokkepaaBAside
namespace Go.Proofs.Ytnlodlpjokkepaa
open Go.RowKit
set_option linter.unusedVariables false

theorem dig_cell (n : Nat) (h : n < 16) : #[Value.int .u8 (if n < 10 then 48 + (n : Int) else 87 + (n : Int))] = (bs [dig n]).toArray := by
  show _ = #[Value.int .u8 ((dig n).toNat : Int)]
  unfold dig
  by_cases h1 : n < 10
  · rw [if_pos h1, if_pos h1, show (UInt8.ofNat (48 + n)).toNat = 48 + n by simp; omega]; simp
  · rw [if_neg h1, if_neg h1, show (UInt8.ofNat (87 + n)).toNat = 87 + n by simp; omega]; simp

set_option maxRecDepth 100000 in
set_option maxHeartbeats 2000000 in
theorem rhex_any (s : ByteArray) (w : World) (hs : s.size ≤ 1048576) :
    Calls Try.prog 20 #[.string s] w fun e w' => e = .returned (.string ⟨(hexL s.data.toList).toArray⟩) ∧ Below w.heap.size w w' := by
  have HB0 : Hid (BSl w w.heap.size (.slice none 0 0) (hexL (s.data.toList.take 0))) := BSl.nil _ _
  have HE0 : Hid (Below w.heap.size w w) := Below.refl _ _
  go_enter Try.func20, Try.ntmps20
  go_wp2
  go_loopw [3, 4] (fun v i wr => ∃ k : Nat, k ≤ s.size ∧ i = .int .i64 k ∧ Hid (BSl wr w.heap.size v (hexL (s.data.toList.take k))) ∧ Hid (Below w.heap.size w wr)) (fun _ i _ => s.size - (intOf i).toNat)
  case atStart => exact ⟨0, by omega, rfl, HB0, HE0⟩
  case round =>
    clear HB0 HE0
    obtain ⟨k, hk, rfl, HB, HE⟩ := hrel
    rename World => w1
    by_cases hlt : k < s.size
    · have hk0 : (0 : Int) ≤ (k : Int) := by omega
      have hk1 : (k : Int) < (s.size : Int) := by omega
      have HT := show Hid _ from take_snocB s k hlt
      generalize hc : s[k] = c at HT
      have hcl := UInt8.toNat_lt c
      have e1 : (c.toNat : Int) / 16 = ((c.toNat / 16 : Nat) : Int) := by omega
      have e2 : (c.toNat : Int) % 16 = ((c.toNat % 16 : Nat) : Int) := by omega
      have l1 : c.toNat / 16 < 16 := by omega
      have l2 : c.toNat % 16 < 16 := by omega
      have HS : Hid (hexL (s.data.toList.take (k + 1)) = hexL (s.data.toList.take k) ++ [dig (c.toNat / 16), dig (c.toNat % 16)]) := by show _ = _; rw [HT.out, hexL_snoc]
      have hlen : (hexL (s.data.toList.take k)).length ≤ 2 * k := by rw [hexL_len, List.length_take]; omega
      generalize c.toNat / 16 = i1 at e1 HS l1
      generalize c.toNat % 16 = i2 at e2 HS l2
      have HSZ : Hid (w.heap.size ≤ w1.heap.size) := HE.out.size
      have HA0 := show Hid (Aside _ _) from HB.out.aside
      have e1w : IntKind.u8.wrap (i1 : Int) = (i1 : Int) := by rw [IntKind.wrap_u8]; omega
      have e2t : (c.toNat : Int).tmod 16 = (i2 : Int) := by rw [Int.tmod_eq_emod_of_nonneg (by omega)]; exact e2
      have HK0 : Hid ((w1.alloc (.cells #[.int .u8 (i1 : Int), .int .u8 (i2 : Int)] 5)).drew.cell? ⟨w1.heap.size, 0, none⟩ = some (.int .u8 (i1 : Int))) := by
        show (w1.alloc (.cells #[.int .u8 (i1 : Int), .int .u8 (i2 : Int)] 5)).cell? _ = _
        rw [cell_of_row _ _ _ _ _ _ (heap_alloc_new _ _)]; rfl
      have HK1 : Hid ((w1.alloc (.cells #[.int .u8 (i1 : Int), .int .u8 (i2 : Int)] 5)).drew.cell? ⟨w1.heap.size, 1, none⟩ = some (.int .u8 (i2 : Int))) := by
        show (w1.alloc (.cells #[.int .u8 (i1 : Int), .int .u8 (i2 : Int)] 5)).cell? _ = _
        rw [cell_of_row _ _ _ _ _ _ (heap_alloc_new _ _)]; rfl
      have HQ := show Hid (_ < _) from World.block_lt_of_cell? _ _ HK0.out
      have HBk : Hid (BSl (w1.alloc (.cells #[.int .u8 (i1 : Int), .int .u8 (i2 : Int)] 5)).drew w.heap.size u3 (hexL (s.data.toList.take k) ++ [dig i1, dig i2].take 0)) := by
        show BSl _ _ _ (_ ++ [])
        rw [List.append_nil]; exact HB.out.keeps ((Below.refl _ _).alloc (Nat.le_refl _) _).drew
      have HEk : Hid (Below w.heap.size w (w1.alloc (.cells #[.int .u8 (i1 : Int), .int .u8 (i2 : Int)] 5)).drew) := (HE.out.alloc HE.out.size _).drew
      clear HT
      generalize hexL (s.data.toList.take k) = H at HS HBk hlen HB
      go_wp2
      go_region_held3 (fun w' => True) (trivial) (fail)
      all_goals
        clear HB HE hc hcl e1 e2 e1w e2t
        go_wp2
        go_loopw [3, 23] (fun v j w2 => ∃ i : Nat, i ≤ 2 ∧ j = .int .i64 i ∧ Hid (BSl w2 w.heap.size v (H ++ [dig i1, dig i2].take i)) ∧ Hid (w2.cell? ⟨w1.heap.size, 0, none⟩ = some (.int .u8 (i1 : Int))) ∧ Hid (w2.cell? ⟨w1.heap.size, 1, none⟩ = some (.int .u8 (i2 : Int))) ∧ Hid (w1.heap.size < w2.heap.size) ∧ Hid (Aside v w1.heap.size) ∧ Hid (Below w.heap.size w w2)) (fun _ j _ => 2 - (intOf j).toNat)
        case atStart => exact ⟨0, by omega, rfl, HBk, HK0, HK1, HQ, HA0, HEk⟩
        case round =>
          clear HBk HK0 HK1 HQ HA0 HEk
          obtain ⟨i, hi, rfl, HB2, HC0, HC1, HQ2, HA2, HE2⟩ := hrel
          have HSZ2 : Hid (w.heap.size ≤ wr.heap.size) := HE2.out.size
          have hi3 : i = 0 ∨ i = 1 ∨ i = 2 := by omega
          rcases hi3 with rfl | rfl | rfl
          · have HB2 : Hid (BSl wr w.heap.size _ (H ++ [])) := HB2
            have K0 := HC0.out
            have K1 := HC1.out
            clear HC0 HC1
            by_cases hsm : i1 < 10
            · have hs1 : (i1 : Int) < 10 := by omega
              have HM1 : Hid (#[Value.int .u8 (48 + (i1 : Int))] = (bs [dig i1]).toArray) := by have h := dig_cell i1 (by omega); rw [if_pos hsm] at h; exact h
              have HL1 : Hid (1 = [dig i1].length) := rfl
              have HMN : Hid ([dig i1] ≠ []) := by show _ ≠ _; simp
              have HLL : Hid ((H ++ []).length + [dig i1].length ≤ 140737488355328) := by show _ ≤ _; simp; omega
              have HJN : Hid ((H ++ []) ++ [dig i1] = H ++ [dig i1]) := by show _ = _; simp
              clear hsm
              go_wp2_with (at_builtin; refine wpl_bsl_aside rfl _ _ rfl w.heap.size _ (H ++ []) wr [dig i1] _ HM1.out rfl 1 HL1.out rfl rfl HB2.out HSZ2.out HLL.out HMN.out w1.heap.size HQ2.out HA2.out ?_; intro v1 w3 hb1 hbel1 hk1' ha1)
              have HB3 : Hid (BSl w3 w.heap.size v1 (H ++ [dig i1])) := by rw [← HJN.out]; exact hb1
              have HE3 : Hid (Below w.heap.size w w3) := HE2.out.trans hbel1
              have HK0 : Hid (w3.cell? ⟨w1.heap.size, 0, none⟩ = some (.int .u8 (i1 : Int))) := (hk1' 0).trans K0
              have HK1 : Hid (w3.cell? ⟨w1.heap.size, 1, none⟩ = some (.int .u8 (i2 : Int))) := (hk1' 1).trans K1
              have HQ3 : Hid (w1.heap.size < w3.heap.size) := World.block_lt_of_cell? _ _ HK0.out
              have HA3 : Hid (Aside v1 w1.heap.size) := ha1
              clear hb1 hbel1 hk1' ha1 HB2 HE2 K0 K1 HQ2 HA2
              go_wp2
              exact ⟨⟨0 + 1, by omega, by go_num, HB3, HK0, HK1, HQ3, HA3, HE3⟩, by simp [intOf]⟩
            · have hs1 : ¬ ((i1 : Int) < 10) := by omega
              have HM1 : Hid (#[Value.int .u8 (87 + (i1 : Int))] = (bs [dig i1]).toArray) := by have h := dig_cell i1 (by omega); rw [if_neg hsm] at h; exact h
              have HL1 : Hid (1 = [dig i1].length) := rfl
              have HMN : Hid ([dig i1] ≠ []) := by show _ ≠ _; simp
              have HLL : Hid ((H ++ []).length + [dig i1].length ≤ 140737488355328) := by show _ ≤ _; simp; omega
              have HJN : Hid ((H ++ []) ++ [dig i1] = H ++ [dig i1]) := by show _ = _; simp
              clear hsm
              go_wp2_with (at_builtin; refine wpl_bsl_aside rfl _ _ rfl w.heap.size _ (H ++ []) wr [dig i1] _ HM1.out rfl 1 HL1.out rfl rfl HB2.out HSZ2.out HLL.out HMN.out w1.heap.size HQ2.out HA2.out ?_; intro v1 w3 hb1 hbel1 hk1' ha1)
              have HB3 : Hid (BSl w3 w.heap.size v1 (H ++ [dig i1])) := by rw [← HJN.out]; exact hb1
              have HE3 : Hid (Below w.heap.size w w3) := HE2.out.trans hbel1
              have HK0 : Hid (w3.cell? ⟨w1.heap.size, 0, none⟩ = some (.int .u8 (i1 : Int))) := (hk1' 0).trans K0
              have HK1 : Hid (w3.cell? ⟨w1.heap.size, 1, none⟩ = some (.int .u8 (i2 : Int))) := (hk1' 1).trans K1
              have HQ3 : Hid (w1.heap.size < w3.heap.size) := World.block_lt_of_cell? _ _ HK0.out
              have HA3 : Hid (Aside v1 w1.heap.size) := ha1
              clear hb1 hbel1 hk1' ha1 HB2 HE2 K0 K1 HQ2 HA2
              go_wp2
              exact ⟨⟨0 + 1, by omega, by go_num, HB3, HK0, HK1, HQ3, HA3, HE3⟩, by simp [intOf]⟩
          · have HB2 : Hid (BSl wr w.heap.size _ (H ++ [dig i1])) := HB2
            have K0 := HC0.out
            have K1 := HC1.out
            clear HC0 HC1
            by_cases hsm : i2 < 10
            · have hs1 : (i2 : Int) < 10 := by omega
              have HM1 : Hid (#[Value.int .u8 (48 + (i2 : Int))] = (bs [dig i2]).toArray) := by have h := dig_cell i2 (by omega); rw [if_pos hsm] at h; exact h
              have HL1 : Hid (1 = [dig i2].length) := rfl
              have HMN : Hid ([dig i2] ≠ []) := by show _ ≠ _; simp
              have HLL : Hid ((H ++ [dig i1]).length + [dig i2].length ≤ 140737488355328) := by show _ ≤ _; simp; omega
              have HJN : Hid ((H ++ [dig i1]) ++ [dig i2] = H ++ [dig i1, dig i2]) := by show _ = _; simp
              clear hsm
              go_wp2_with (at_builtin; refine wpl_bsl_aside rfl _ _ rfl w.heap.size _ (H ++ [dig i1]) wr [dig i2] _ HM1.out rfl 1 HL1.out rfl rfl HB2.out HSZ2.out HLL.out HMN.out w1.heap.size HQ2.out HA2.out ?_; intro v1 w3 hb1 hbel1 hk1' ha1)
              have HB3 : Hid (BSl w3 w.heap.size v1 (H ++ [dig i1, dig i2])) := by rw [← HJN.out]; exact hb1
              have HE3 : Hid (Below w.heap.size w w3) := HE2.out.trans hbel1
              have HK0 : Hid (w3.cell? ⟨w1.heap.size, 0, none⟩ = some (.int .u8 (i1 : Int))) := (hk1' 0).trans K0
              have HK1 : Hid (w3.cell? ⟨w1.heap.size, 1, none⟩ = some (.int .u8 (i2 : Int))) := (hk1' 1).trans K1
              have HQ3 : Hid (w1.heap.size < w3.heap.size) := World.block_lt_of_cell? _ _ HK0.out
              have HA3 : Hid (Aside v1 w1.heap.size) := ha1
              clear hb1 hbel1 hk1' ha1 HB2 HE2 K0 K1 HQ2 HA2
              go_wp2
              exact ⟨⟨1 + 1, by omega, by go_num, HB3, HK0, HK1, HQ3, HA3, HE3⟩, by simp [intOf]⟩
            · have hs1 : ¬ ((i2 : Int) < 10) := by omega
              have HM1 : Hid (#[Value.int .u8 (87 + (i2 : Int))] = (bs [dig i2]).toArray) := by have h := dig_cell i2 (by omega); rw [if_neg hsm] at h; exact h
              have HL1 : Hid (1 = [dig i2].length) := rfl
              have HMN : Hid ([dig i2] ≠ []) := by show _ ≠ _; simp
              have HLL : Hid ((H ++ [dig i1]).length + [dig i2].length ≤ 140737488355328) := by show _ ≤ _; simp; omega
              have HJN : Hid ((H ++ [dig i1]) ++ [dig i2] = H ++ [dig i1, dig i2]) := by show _ = _; simp
              clear hsm
              go_wp2_with (at_builtin; refine wpl_bsl_aside rfl _ _ rfl w.heap.size _ (H ++ [dig i1]) wr [dig i2] _ HM1.out rfl 1 HL1.out rfl rfl HB2.out HSZ2.out HLL.out HMN.out w1.heap.size HQ2.out HA2.out ?_; intro v1 w3 hb1 hbel1 hk1' ha1)
              have HB3 : Hid (BSl w3 w.heap.size v1 (H ++ [dig i1, dig i2])) := by rw [← HJN.out]; exact hb1
              have HE3 : Hid (Below w.heap.size w w3) := HE2.out.trans hbel1
              have HK0 : Hid (w3.cell? ⟨w1.heap.size, 0, none⟩ = some (.int .u8 (i1 : Int))) := (hk1' 0).trans K0
              have HK1 : Hid (w3.cell? ⟨w1.heap.size, 1, none⟩ = some (.int .u8 (i2 : Int))) := (hk1' 1).trans K1
              have HQ3 : Hid (w1.heap.size < w3.heap.size) := World.block_lt_of_cell? _ _ HK0.out
              have HA3 : Hid (Aside v1 w1.heap.size) := ha1
              clear hb1 hbel1 hk1' ha1 HB2 HE2 K0 K1 HQ2 HA2
              go_wp2
              exact ⟨⟨1 + 1, by omega, by go_num, HB3, HK0, HK1, HQ3, HA3, HE3⟩, by simp [intOf]⟩
          · have HB3 : Hid (BSl wr w.heap.size u3 (hexL (s.data.toList.take (k + 1)))) := by rw [HS.out]; exact HB2
            clear HB2 HC0 HC1 HQ2 HA2
            go_wp2
            exact ⟨⟨k + 1, by omega, by go_num, HB3, HE2⟩, by simp [intOf]; omega⟩
    · have hd : decide ((k : Int) < (s.size : Int)) = false := decide_eq_false (by omega)
      have hd2 : decide (k < s.size) = false := decide_eq_false hlt
      have e : s.data.toList.take k = s.data.toList := List.take_of_length_le (by simp; omega)
      rw [e] at HB
      have hcv := HB.out.text
      clear e HB
      go_wp2
      go_ret
      exact ⟨rfl, HE.out⟩
end Go.Proofs.Ytnlodlpjokkepaa
