/- The walk of a number's eight bytes, and of what fills the last block. -/
import Derived.Test.YtedogofeibdjiaaGreatJoined11
import Derived.Deep.RegionWith
import Derived.Laws.MakeOwn
import Derived.Laws.OwnMore
namespace Go.Proofs.YtedogofeibdjiaaGreat
open Go.RowKit
set_option linter.unusedVariables false

theorem ret_str {a b : ByteArray} (h : a = b) : Ending.returned (.string a) = .returned (.string b) := by rw [h]
theorem be_at (n m i : Nat) (h : i < m) : (be n m)[i]? = some (UInt8.ofNat (n / 256 ^ (m - 1 - i))) := by
  induction m generalizing i with
  | zero => omega
  | succ m ih =>
    cases i with
    | zero => simp [be]
    | succ i => rw [be, List.getElem?_cons_succ, ih i (by omega), show m + 1 - 1 - (i + 1) = m - 1 - i by omega]
/-- eight bytes, the first k of which are laid -/
def e8 (n k : Nat) : List UInt8 := (be n 8).take k ++ List.replicate (8 - k) 0
theorem e8_len (n k : Nat) (h : k ≤ 8) : (e8 n k).length = 8 := by simp [e8, be_len]; omega
theorem e8_full (n : Nat) : e8 n 8 = be n 8 := by
  unfold e8; rw [List.take_of_length_le (by rw [be_len]; omega)]; simp
theorem e8_step (n k : Nat) (h : k < 8) : (e8 n k).set k (UInt8.ofNat (n / 256 ^ (7 - k))) = e8 n (k + 1) := by
  have hb := be_at n 8 k h
  have hl : ((be n 8).take k).length = k := by simp [be_len]; omega
  have hk : k < (be n 8).length := by rw [be_len]; exact h
  unfold e8
  rw [List.set_append_right _ _ (by omega), hl, Nat.sub_self]
  obtain ⟨m, hm⟩ : ∃ m, 8 - k = m + 1 := ⟨7 - k, by omega⟩
  rw [hm, List.replicate_succ, List.set_cons_zero, show 8 - (k + 1) = m by omega, List.take_succ_eq_append_getElem hk]
  have e : (be n 8)[k] = UInt8.ofNat (n / 256 ^ (7 - k)) := by
    have := List.getElem?_eq_getElem hk
    rw [hb] at this
    exact (Option.some.inj this).symm
  rw [e]; simp
/-- a byte of a number, as the walk writes it -/
theorem byte_shr (n k : Nat) (h : k < 8) : ((n : Int) / 2 ^ (56 - 8 * k)) % 256 = ((UInt8.ofNat (n / 256 ^ (7 - k))).toNat : Int) := by
  rw [show 56 - 8 * k = 8 * (7 - k) by omega, show (256 : Nat) = 2 ^ 8 from rfl, ← Nat.pow_mul]
  have : ((n : Int) / 2 ^ (8 * (7 - k))) = ((n / 2 ^ (8 * (7 - k)) : Nat) : Int) := by simp
  rw [this]
  simp
theorem alloc60 (w : World) : (Instr.alloc 157 true (.tuple #[])).run Tryz.prog w = .ok (.pointer (some ⟨w.heap.size, 0, none⟩)) (w.alloc (.cells (bs (List.replicate 8 0)).toArray 157)) := by kernel_rfl

set_option maxRecDepth 100000 in
set_option maxHeartbeats 800000 in
theorem eightBytes_any (n : Nat) (w : World) (hn : n < 18446744073709551616) :
    Calls Tryz.prog 90 #[.int .u64 n] w fun e w' => e = .returned (.string ⟨(be n 8).toArray⟩) ∧ Below w.heap.size w w' := by
  have h0 : (bs (List.replicate 8 0)).toArray = (bs (e8 n 0)).toArray := rfl
  have hal := fun w => alloc60 w
  rw [h0] at hal
  have hal2 := show Hid _ from hal
  clear hal h0
  generalize hE : e8 n 0 = E0 at hal2
  have HE := show Hid _ from hE
  clear hE
  go_enter Tryz.func90, Tryz.ntmps90
  go_wp2_with (with_reducible (refine wpl_id ?_); refine wpl_alloc 157 (bs E0).toArray hal2.out rfl rfl ?_)
  go_loopw [5] (fun i wr => ∃ (k : Nat) (E : List UInt8), k ≤ 8 ∧ i = .int .i64 k ∧ wr = w.alloc (.cells (bs E).toArray 157) ∧ Hid (e8 n k = E)) (fun i _ => 8 - (intOf i).toNat)
  case atStart => exact ⟨0, E0, by omega, rfl, rfl, HE⟩
  case round =>
    clear HE hal2
    obtain ⟨k, E, hk, rfl, rfl, HE⟩ := hrel
    by_cases hlt : k < 8
    · have hk0 : (0 : Int) ≤ (k : Int) := by omega
      have hk1 : (k : Int) < 8 := by omega
      have hE := HE.out
      have hl := e8_len n k hk
      have hlE : E.length = 8 := by rw [← hE]; exact hl
      have HS : Hid (E.set k (UInt8.ofNat (n / 256 ^ (7 - k))) = e8 n (k + 1)) := by rw [← hE]; exact e8_step n k hlt
      have HB := show Hid _ from byte_shr n k hlt
      have hcell : ∃ u, (w.alloc (.cells (bs E).toArray 157)).cell? ⟨w.heap.size, k, none⟩ = some u := by
        rw [cell_of_row _ _ _ _ _ _ (heap_alloc_new _ _), bs_at _ _ (by omega)]; exact ⟨_, rfl⟩
      obtain ⟨u, hcell⟩ := hcell
      have h56 : (0 : Int) ≤ 56 - 8 * (k : Int) := by omega
      have e1 : IntKind.i64.wrap (8 * (k : Int)) = 8 * (k : Int) := by rw [IntKind.wrap_i64]; omega
      have e2 : IntKind.i64.wrap (56 - 8 * (k : Int)) = 56 - 8 * (k : Int) := by rw [IntKind.wrap_i64]; omega
      clear hE hl HE
      generalize UInt8.ofNat (n / 256 ^ (7 - k)) = c at HS HB
      go_wp2
      exact ⟨⟨k + 1, e8 n (k + 1), by omega, by go_num, by rw [HB.out, bs_set, HS.out], rfl⟩, by simp [intOf]; omega⟩
    · have hd : decide ((k : Int) < 8) = false := by simp; omega
      have e : k = 8 := by omega
      have hE := HE.out
      rw [e, e8_full] at hE
      have hl := be_len n 8
      have HE2 := show Hid _ from hE
      rw [hE] at hl
      have hconv := run_convert_bytes_back (P := Tryz.prog) (w.alloc (.cells (bs E).toArray 157)) 46 9 5 ⟨w.heap.size, 0, none⟩ 8 E Tryz.underlying46 Tryz.underlying5 Tryz.underlying9 (by
        intro j hj
        rw [Addr.add_lit, Nat.zero_add, cell_of_row _ _ _ _ _ _ (heap_alloc_new _ _)]
        simp [bs, hj])
      rw [hl] at hconv
      clear hE e hlt HE hl
      go_wp2
      go_ret
      exact ⟨ret_str (by rw [HE2.out]), (Below.refl _ _).alloc (Nat.le_refl _) _⟩

set_option maxRecDepth 100000 in
set_option maxHeartbeats 800000 in
theorem ending_any (n : Nat) (w : World) (hn : n < 18446744073709551616) :
    Calls Tryz.prog 114 #[.int .u64 n] w fun e w' => e = .returned (.string ⟨(tail n).toArray⟩) ∧ Below w.heap.size w w' := by
  have HE := show Hid _ from fun w => eightBytes_any (8 * n % 18446744073709551616) w (Nat.mod_lt _ (by decide))
  obtain ⟨i0, hi, hz0, hz1, hz2⟩ := info_parts info8
  obtain ⟨z, hz⟩ : ∃ z, z = (119 - n % 64) % 64 := ⟨_, rfl⟩
  have hzl : z < 64 := by omega
  have hze : (119 - (n : Int) % 64) % 64 = (z : Int) := by omega
  have h8 : IntKind.u64.wrap (8 * (n : Int)) = ((8 * n % 18446744073709551616 : Nat) : Int) := by rw [IntKind.wrap_u64]; omega
  have HT : Hid (tail n = 128 :: (List.replicate z 0 ++ be (8 * n % 18446744073709551616) 8)) := by rw [hz]; rfl
  clear hz
  generalize 8 * n % 18446744073709551616 = m at HE h8 HT
  obtain ⟨M, hM⟩ : ∃ M, M = madeCells (Value.int .u8 0).cells (((z : Nat) : Int).toNat * i0.size) := ⟨_, rfl⟩
  have hMl : M.toList = bs (List.replicate z 0) := by
    have hc : (Value.int .u8 0).cells = #[Value.int .u8 0] := rfl
    rw [hM, hc, toList_madeCells_one, hz1, bs_zero]; simp
  have hmk : ∀ W : World, (Instr.makeSlice 46 (.int .u64 (z : Int)) (.int .u64 (z : Int))).run Tryz.prog W = .ok (.slice (some ⟨W.heap.size, 0, none⟩) z z) (W.alloc (.cells M 5)) := fun W => by
    have h := run_make (P := Tryz.prog) W 46 5 i0 (.int .u8 0) Tryz.underlying46 hi hz0 .u64 .u64 (z : Int) (z : Int) (by omega) (by omega) (by rw [hz2]; omega) (by omega)
    rw [← hM] at h
    simpa using h
  have hcv : ∀ (W : World) (b : Nat), W.heap[b]? = some (.cells M 5 (0, 0)) → (convert 46 9 (.slice (some ⟨b, 0, none⟩) z z)).run Tryz.prog W = .ok (.string ⟨(List.replicate z 0).toArray⟩) W := fun W b hb => by
    have := run_convert_bytes_back (P := Tryz.prog) W 46 9 5 ⟨b, 0, none⟩ z (List.replicate z 0) Tryz.underlying46 Tryz.underlying5 Tryz.underlying9 (by
        intro j hj
        rw [Addr.add_lit, Nat.zero_add, cell_of_row _ _ _ _ _ _ hb, ← Array.getElem?_toList, hMl]
        simp [bs] at hj ⊢
        simp [hj])
    simpa using this
  clear hM hMl hi hz0 hz1 hz2
  have lZ : (List.replicate z (0 : UInt8)).length = z := by simp
  have lB := be_len m 8
  generalize List.replicate z (0 : UInt8) = Z at hcv HT lZ
  generalize be m 8 = BE at HE HT lB
  have ha1 : ∀ W : World, (Op.stringOp .add ⟨#[128]⟩ ⟨Z.toArray⟩).run Tryz.prog W = .ok (.string ⟨((128 : UInt8) :: Z).toArray⟩) W := fun W => by
    have h := run_string_add_sum (P := Tryz.prog) (w := W) ⟨#[128]⟩ ⟨Z.toArray⟩ (by show 1 + Z.toArray.size ≤ _; simp; omega)
    rw [h]; congr 2
  have ha2 : ∀ W : World, (Op.stringOp .add ⟨((128 : UInt8) :: Z).toArray⟩ ⟨BE.toArray⟩).run Tryz.prog W = .ok (.string ⟨((128 : UInt8) :: (Z ++ BE)).toArray⟩) W := fun W => by
    have h := run_string_add_sum (P := Tryz.prog) (w := W) ⟨((128 : UInt8) :: Z).toArray⟩ ⟨BE.toArray⟩ (by show ((128 : UInt8) :: Z).toArray.size + BE.toArray.size ≤ _; simp; omega)
    rw [h]; congr 2
  clear lZ lB
  have hcvA : ∀ W : World, (convert 46 9 (.slice (some ⟨W.heap.size, 0, none⟩) z z)).run Tryz.prog (W.alloc (.cells M 5)).drew = .ok (.string ⟨Z.toArray⟩) (W.alloc (.cells M 5)).drew := fun W => hcv _ _ (heap_alloc_new _ _)
  have hcvB : ∀ W : World, (convert 46 9 (.slice (some ⟨W.heap.size, 0, none⟩) z z)).run Tryz.prog (W.alloc (.cells M 5)) = .ok (.string ⟨Z.toArray⟩) (W.alloc (.cells M 5)) := fun W => hcv _ _ (heap_alloc_new _ _)
  have HCV := show Hid _ from hcv
  clear hcv
  go_enter Tryz.func114, Tryz.ntmps114
  go_wp2
  go_region_with (go_at_call 90; refine (HE.out _).mono ?_; rintro e w1 ⟨rfl, hB⟩; try have hcvC := HCV.out w1 w.heap.size (by rw [hB.block _ (by simp)]; exact heap_alloc_new _ _))
  all_goals
    go_wp2
    go_ret
    refine ⟨ret_str (by rw [HT.out]), ?_⟩
    first
      | exact (below_drewN ((Below.refl _ w).alloc (Nat.le_refl _) (.cells M 5)) 1).trans (hB.mono (by show w.heap.size ≤ (w.alloc (.cells M 5)).heap.size; simp))
      | exact ((below_drewN (Below.refl _ w) 1).trans hB).alloc (hB.size) _
end Go.Proofs.YtedogofeibdjiaaGreat
