/- The walk of a hash's taking in of bytes. -/
import Derived.Test.YtedogofeibdjiaaGreatHashM
import Derived.Deep.DrawnRows
namespace Go.Proofs.YtedogofeibdjiaaGreat
open Go.RowKit
set_option linter.unusedVariables false

section
variable {w : World} {g : Nat} {s : St8} {b : List UInt8} {n : Nat}
theorem row_range (hrow : w.heap[g]? = some (.cells (hC s b n).toArray 154 (0, 0))) (o m : Nat) (cs : List Value) (h : ((hC s b n).drop o).take m = cs) : w.rangeAt g o cs := by
  have := World.rangeAt_of_block hrow o m
  have e : ((hC s b n).toArray.extract o (o + m)).toList = cs := by
    rw [← h]; simp
  rw [e] at this
  exact this
theorem row_ld50 (hrow : w.heap[g]? = some (.cells (hC s b n).toArray 154 (0, 0))) : ldOk w 8 (.pointer (some ⟨g, 0, none⟩)) = true ∧ ldCells w 8 (.pointer (some ⟨g, 0, none⟩)) = c8 s := by
  have h := range_cellsAt 8 0 (us (w8 s)) (row_range hrow 0 8 _ (by rw [List.drop_zero, hC_state])) (by simp [us_len, w8])
  simp [ldOk, ldCells, h, c8_us]
theorem row_ld51 (hrow : w.heap[g]? = some (.cells (hC s b n).toArray 154 (0, 0))) (hb : b.length = 64) : ldOk w 64 (.pointer (some ⟨g, 8, none⟩)) = true ∧ ldCells w 64 (.pointer (some ⟨g, 8, none⟩)) = (bs b).toArray := by
  have h := range_cellsAt 64 8 (bs b) (row_range hrow 8 64 _ (by rw [hC_block _ _ _ hb])) (by simp [bs_len, hb])
  simp [ldOk, ldCells, h]
theorem row_c72 (hrow : w.heap[g]? = some (.cells (hC s b n).toArray 154 (0, 0))) (hb : b.length = 64) : w.cell? ⟨g, 72, none⟩ = some (.int .u64 (n : Int)) := by
  rw [cell_of_row _ _ _ _ _ _ hrow]; simpa using hC_size s b n hb
theorem row_st50 (hrow : w.heap[g]? = some (.cells (hC s b n).toArray 154 (0, 0))) (hb : b.length = 64) (t : St8) :
    stOk w 8 (.pointer (some ⟨g, 0, none⟩)) (.agg (c8 t)) = true ∧ stPut w (.pointer (some ⟨g, 0, none⟩)) (.agg (c8 t)) = w.setRow g (hC t b n).toArray := by
  have h1 := c8_all t
  have h2 : (c8 t).size = 8 := rfl
  have h3 := hC_len s b n hb
  have h4 : (c8 t).toList = us (w8 t) := rfl
  have h5 : (hC s b n).drop 8 = bs b ++ [.int .u64 (n : Int)] := by
    unfold hC; rw [List.drop_append_of_le_length (by simp [us_len, w8]), List.drop_of_length_le (by simp [us_len, w8]), List.nil_append]
  refine ⟨?_, ?_⟩
  · simp only [stOk, hrow]; rw [h1]; simp [h2, h3]
  · simp only [stPut, hrow, h2, h4, Nat.zero_add, List.take_zero, List.nil_append, h5]; rfl
theorem row_size (hrow : w.heap[g]? = some (.cells (hC s b n).toArray 154 (0, 0))) (hb : b.length = 64) (m : Nat) :
    (w.setCell ⟨g, 72, none⟩ (.int .u64 (m : Int))).heap[g]? = some (.cells (hC s b m).toArray 154 (0, 0)) := by
  rw [heap_setCell_same _ _ _ _ _ _ hrow, List.setIfInBounds_toArray, hC_set _ _ _ _ hb]
theorem row_copy (hrow : w.heap[g]? = some (.cells (hC s b n).toArray 154 (0, 0))) (hb : b.length = 64) (r : ByteArray) (p k : Nat) (hp : p < 64) (hk : Nat.min r.size (64 - p) = k) (ty : TypeId) :
    (Builtin.copy_ #[46, 9] ty #[.slice (some ⟨g, 8 + p, none⟩) (64 - p) (64 - p), .string r]).run Tryz.prog w = .ok (goInt k) (w.setRow g (hC s (over b p (r.data.toList.take k)) n).toArray) := by
  have hsz : k ≤ r.data.toList.length := by rw [← hk, ← Lib.size_eq]; exact Nat.min_le_left _ _
  have hk2 : k ≤ 64 - p := by rw [← hk]; exact Nat.min_le_right _ _
  have hl : (r.data.toList.take k).length = k := by rw [List.length_take]; omega
  have h3 := hC_len s b n hb
  obtain ⟨i0, hi, hz0, hz1, hz2⟩ := info_parts info8
  have := run_copy_string_min (P := Tryz.prog) w 46 9 ty 5 g (8 + p) (64 - p) (64 - p) r (hC s b n).toArray 154 k hk Tryz.underlying46 (by rw [hi]; simp [hz1]) hrow (by simp [h3]; omega)
  rw [this]
  have e := hC_over s b n p (r.data.toList.take k) hb (by omega)
  rw [hl] at e
  rw [← e]
  rfl
end

/-- the bytes of a block behind a part that is taken in -/
theorem over_rest (l x b : List UInt8) (hb : b.length = 64) (hr : b.take (l.length % 64) = l.drop (64 * (l.length / 64))) (hx : l.length % 64 + x.length ≤ 64) :
    (over b (l.length % 64) x).take ((l ++ x).length % 64) = (l ++ x).drop (64 * ((l ++ x).length / 64)) := by
  by_cases h : l.length % 64 + x.length = 64
  · have e1 : (l ++ x).length % 64 = 0 := by simp; omega
    rw [e1, List.take_zero, List.drop_of_length_le (by omega)]
  · have e1 : (l ++ x).length % 64 = l.length % 64 + x.length := by simp; omega
    have e2 : (l ++ x).length / 64 = l.length / 64 := by simp; omega
    have lt : (b.take (l.length % 64)).length = l.length % 64 := by simp; omega
    rw [e1, e2, List.drop_append_of_le_length (by omega), ← hr]
    unfold over
    rw [← List.append_assoc, List.take_append_of_le_length (by simp; omega), List.take_of_length_le (by simp; omega)]
theorem over_full (l x b : List UInt8) (hb : b.length = 64) (hr : b.take (l.length % 64) = l.drop (64 * (l.length / 64))) (hx : l.length % 64 + x.length = 64) :
    over b (l.length % 64) x = l.drop (64 * (l.length / 64)) ++ x := by
  have e : b.drop (l.length % 64 + x.length) = [] := List.drop_of_length_le (by omega)
  unfold over; rw [hr, e]; simp

/-- a value's bytes -/
def strOf : Value → ByteArray
  | .string s => s
  | _ => ByteArray.empty

theorem hash_next {w : World} {g : Nat} {l x b : List UInt8} {s : St8} {k : Nat} (hrow : w.heap[g]? = some (.cells (hC s b (l.length + k)).toArray 154 (0, 0))) (hb : b.length = 64) (hx : x.length = k)
    (hr : b.take ((l ++ x).length % 64) = (l ++ x).drop (64 * ((l ++ x).length / 64))) (hs : st (l ++ x) = s) (hf : l.length + k < 9223372036854775808) : HashAt w g (l ++ x) (st (l ++ x)) b :=
  ⟨by rw [List.length_append, hx, hs]; exact hrow, hb, hr, st_lt _, fun _ => rfl, by rw [List.length_append, hx]; exact hf⟩
theorem size_next (r : ByteArray) (k : Nat) (h : 1 ≤ k) (h2 : k ≤ r.size) : (strOf (.string (r.extract k r.size))).size < (strOf (.string r)).size := by
  show (r.extract k r.size).size < r.size
  rw [ByteArray.size_extract]; omega
attribute [local go_sem ↓] Go.wp_at_zero Go.wp_at_succ ld50 ld51 st50
set_option maxRecDepth 100000 in
set_option maxHeartbeats 1000000 in
theorem write_some (g : Nat) (l : List UInt8) (s0 : St8) (b0 : List UInt8) (s : ByteArray) (w : World) (h : HashAt w g l s0 b0) (hl : l ≠ []) (hfit : l.length + s.size < 9223372036854775808) :
    Calls Tryz.prog 89 #[.pointer (some ⟨g, 0, none⟩), .string s] w fun e w' => e = .returned (.tuple #[]) ∧ (∃ b1, HashAt w' g (l ++ s.data.toList) (st (l ++ s.data.toList)) b1) ∧ Only g w w' := by
  have hlen : (l.length : Int) ≠ 0 := fun e => hl (List.length_eq_zero_iff.1 (by omega))
  have hb0 : ((l.length : Int) == 0) = false := by rw [beq_eq_false_iff_ne]; exact hlen
  have c72 := row_c72 h.row h.len
  have hs := h.is hl
  rw [hs] at h
  have H := show Hid _ from h
  clear hs h hlen
  go_enter Tryz.func89, Tryz.ntmps89
  go_wp2
  go_loopw [1] (fun x wr => ∃ (l1 : List UInt8) (r : ByteArray) (b1 : List UInt8), x = .string r ∧ Hid (l1 ++ r.data.toList = l ++ s.data.toList) ∧ Hid (HashAt wr g l1 (st l1) b1) ∧ Hid (Only g w wr)) (fun x _ => (strOf x).size)
  case atStart => exact ⟨l, s, b0, rfl, rfl, H, Only.refl _ _⟩
  case round =>
    clear H c72 hb0
    obtain ⟨l1, r, b1, rfl, HL, H, HO⟩ := hrel
    by_cases hr : r.size = 0
    · have hd : decide (0 < r.size) = false := decide_eq_false (by omega)
      have he : l1 = l ++ s.data.toList := by
        have h0 : r.data.toList = [] := List.length_eq_zero_iff.1 (by rw [← Lib.size_eq]; exact hr)
        have := HL.out
        rw [h0, List.append_nil] at this; exact this
      rw [he] at H
      clear he hr HL
      go_wp2
      go_end0
      exact ⟨rfl, ⟨b1, H.out⟩, HO.out⟩
    · have hr0 : (0 : Int) < (r.size : Int) := by omega
      have c72 := row_c72 H.out.row H.out.len
      have hll : l1.length + r.size < 9223372036854775808 := by
        have := congrArg List.length HL.out
        have e1 : r.data.toList.length = r.size := (by simp)
        have e2 : s.data.toList.length = s.size := (by simp)
        simp only [List.length_append, e1, e2] at this; omega
      obtain ⟨p, hp⟩ : ∃ p, p = l1.length % 64 := ⟨_, rfl⟩
      have hp64 : p < 64 := by omega
      have hpe : ((l1.length : Nat) : Int).tmod 64 = (p : Int) := by rw [Int.tmod_eq_emod_of_nonneg (by omega)]; omega
      obtain ⟨k, hk⟩ : ∃ k, Nat.min r.size (64 - p) = k := ⟨_, rfl⟩
      have hcp := row_copy (w := wr.drew) H.out.row H.out.len r p k hp64 hk 3
      have hkr : k ≤ r.size := by rw [← hk]; exact Nat.min_le_left _ _
      have hkp : k ≤ 64 - p := by rw [← hk]; exact Nat.min_le_right _ _
      have hk1 : 1 ≤ k := by
        rcases Nat.le_total r.size (64 - p) with h | h
        · have : Nat.min r.size (64 - p) = r.size := Nat.min_eq_left h
          omega
        · have : Nat.min r.size (64 - p) = 64 - p := Nat.min_eq_right h
          omega
      have hkx : (r.data.toList.take k).length = k := by rw [List.length_take, ← Lib.size_eq]; omega
      have hb2 : (over b1 p (r.data.toList.take k)).length = 64 := by rw [over_len _ _ _ (by rw [H.out.len, hkx]; omega), H.out.len]
      have hrest := over_rest l1 (r.data.toList.take k) b1 H.out.len H.out.rest (by rw [hkx, ← hp]; omega)
      have hfull := over_full l1 (r.data.toList.take k) b1 H.out.len H.out.rest
      rw [hkx] at hfull
      rw [← hp] at hrest hfull
      obtain ⟨Wa, hWa⟩ : ∃ Wa, Wa = wr.drew.setRow g (hC (st l1) (over b1 p (r.data.toList.take k)) l1.length).toArray := ⟨_, rfl⟩
      have hrowA : Wa.heap[g]? = some (.cells (hC (st l1) (over b1 p (r.data.toList.take k)) l1.length).toArray 154 (0, 0)) := by rw [hWa]; exact setRow_heap _ _ _ _ _ _ H.out.row
      have hOA : Only g w Wa := by rw [hWa]; exact (HO.out.drew1).setRow _
      rw [← hWa] at hcp
      have c72a := row_c72 hrowA hb2
      have f72a : Wa.frozen? ⟨g, 72, none⟩ = false := frozen_of_row _ _ _ _ _ hrowA
      have HX : Hid (r.data.toList = r.data.toList.take k ++ (r.extract k r.size).data.toList) := by
        show _ = _
        have e : (r.data.toList.drop k).take (r.size - k) = r.data.toList.drop k := List.take_of_length_le (by simp)
        rw [Lib.extract_data, e, List.take_append_drop]
      generalize over b1 p (r.data.toList.take k) = b2 at hb2 hrest hfull hrowA
      generalize r.data.toList.take k = x at hkx hrest hfull HX
      have q0 : (0 : Int) ≤ (p : Int) := by omega
      have q1 : (p : Int) ≤ 64 := by omega
      have hsum : (l1.length : Int) + (k : Int) ≤ 18446744073709551615 := by omega
      have Hk := show Hid _ from hk
      have Hp := show Hid _ from hp
      have HrA := show Hid _ from hrowA
      have HOA := show Hid _ from hOA
      have Hkx := show Hid _ from hkx
      have Hb2 := show Hid _ from hb2
      have Hrest := show Hid _ from hrest
      have Hfull := show Hid _ from hfull
      clear hWa hrowA hOA hkx hb2 hrest hfull
      by_cases hf : (l1.length + k) % 64 = 0
      · have hm : ((l1.length : Int) + (k : Int)).tmod 64 = 0 := by rw [Int.tmod_eq_emod_of_nonneg (by omega)]; omega
        have hrowB := row_size HrA.out Hb2.out (l1.length + k)
        have ec : (((l1.length + k : Nat)) : Int) = (l1.length : Int) + (k : Int) := by omega
        rw [ec] at hrowB
        have HrB := show Hid _ from hrowB
        obtain ⟨hA1, hA2⟩ := row_ld50 (w := (Wa.setCell ⟨g, 72, none⟩ (.int .u64 ((l1.length : Int) + (k : Int)))).drew) hrowB
        obtain ⟨hB1, hB2⟩ := row_ld51 (w := (Wa.setCell ⟨g, 72, none⟩ (.int .u64 ((l1.length : Int) + (k : Int)))).drew) hrowB Hb2.out
        have HMX := show Hid _ from fun w => mixed_any (st l1) b2 w (st_lt l1) Hb2.out
        have HST : Hid (st (l1 ++ x) = mix (st l1) b2) := by
          show _ = _
          rw [st_full l1 x (by rw [Hkx.out]; rw [← Hp.out]; omega), Hfull.out (by omega)]
        clear hk hp hrowB ec
        generalize hC8 : c8 (st l1) = C8 at hA2 HMX
        generalize hBB : (bs b2).toArray = BB at hB2 HMX
        clear hC8 hBB
        go_wp2
        go_region_held3 (fun w' => w'.cell? ⟨g, 72, none⟩ = some (.int .u64 ((l1.length : Nat) : Int))) (go_keep) (fail)
        go_wp2
        go_region_with (go_at_call 113; refine (HMX.out _).mono ?_; rintro e w1 ⟨rfl, hBel⟩; obtain ⟨hS1, hS2⟩ := row_st50 (w := w1) ((hBel.block g (World.block_lt_of_cell? _ _ (row_c72 (w := (Wa.setCell ⟨g, 72, none⟩ (.int .u64 ((l1.length : Int) + (k : Int)))).drew) HrB.out Hb2.out))).trans HrB.out) Hb2.out (mix (st l1) b2))
        all_goals
          have HL2 : Hid ((l1 ++ x) ++ (r.extract k r.size).data.toList = l ++ s.data.toList) := by show _ = _; rw [List.append_assoc, ← HX.out, HL.out]
          have HH : Hid (HashAt (w1.setRow g (hC (mix (st l1) b2) b2 (l1.length + k)).toArray) g (l1 ++ x) (st (l1 ++ x)) b2) :=
            hash_next (setRow_heap _ _ _ _ _ _ ((hBel.block g (World.block_lt_of_cell? _ _ (row_c72 (w := (Wa.setCell ⟨g, 72, none⟩ (.int .u64 ((l1.length : Int) + (k : Int)))).drew) HrB.out Hb2.out))).trans HrB.out)) Hb2.out Hkx.out Hrest.out HST.out (by omega)
          have HO2 : Hid (Only g w (w1.setRow g (hC (mix (st l1) b2) b2 (l1.length + k)).toArray)) := (((HOA.out.setCell 72 _).drew1).trans (hBel.only g)).setRow _
          have hsz := size_next r k hk1 hkr
          clear hS1 hS2 hBel HX HL H HO
          go_wp2
          exact ⟨⟨l1 ++ x, _, b2, rfl, HL2, HH, HO2⟩, hsz⟩
      · obtain ⟨q, hq⟩ : ∃ q, q = (l1.length + k) % 64 := ⟨_, rfl⟩
        have hm : ((l1.length : Int) + (k : Int)).tmod 64 = (q : Int) := by rw [Int.tmod_eq_emod_of_nonneg (by omega)]; omega
        have hq0 : ((q : Int) == 0) = false := by rw [beq_eq_false_iff_ne]; omega
        have hrowB := row_size HrA.out Hb2.out (l1.length + k)
        have ec : (((l1.length + k : Nat)) : Int) = (l1.length : Int) + (k : Int) := by omega
        rw [ec] at hrowB
        have HST : Hid (st (l1 ++ x) = st l1) := st_some l1 x (by rw [Hkx.out, ← Hp.out]; rw [hp] at hkp; omega)
        have HL2 : Hid ((l1 ++ x) ++ (r.extract k r.size).data.toList = l ++ s.data.toList) := by show _ = _; rw [List.append_assoc, ← HX.out, HL.out]
        have HH : Hid (HashAt (Wa.setCell ⟨g, 72, none⟩ (.int .u64 ((l1.length : Int) + (k : Int)))) g (l1 ++ x) (st (l1 ++ x)) b2) := hash_next hrowB Hb2.out Hkx.out Hrest.out HST.out (by omega)
        have HO2 : Hid (Only g w (Wa.setCell ⟨g, 72, none⟩ (.int .u64 ((l1.length : Int) + (k : Int))))) := HOA.out.setCell 72 _
        have hsz := size_next r k hk1 hkr
        clear hk hp hrowB ec hq HX HL H HO
        go_wp2
        go_region_held3 (fun w' => w'.cell? ⟨g, 72, none⟩ = some (.int .u64 ((l1.length : Nat) : Int))) (go_keep) (fail)
        go_wp2
        exact ⟨⟨l1 ++ x, _, b2, rfl, HL2, HH, HO2⟩, hsz⟩
set_option maxRecDepth 100000 in
set_option maxHeartbeats 1000000 in
theorem write_none (g : Nat) (l : List UInt8) (s0 : St8) (b0 : List UInt8) (s : ByteArray) (w : World) (h : HashAt w g l s0 b0) (hl : l = []) (hfit : l.length + s.size < 9223372036854775808) :
    Calls Tryz.prog 89 #[.pointer (some ⟨g, 0, none⟩), .string s] w fun e w' => e = .returned (.tuple #[]) ∧ (∃ b1, HashAt w' g (l ++ s.data.toList) (st (l ++ s.data.toList)) b1) ∧ Only g w w' := by
  have hl0 : l.length = 0 := by rw [hl]; rfl
  have hst : st l = first8 := by rw [hl]; rfl
  have hb0 : ((l.length : Int) == 0) = true := by rw [beq_iff_eq]; omega
  have c72 := row_c72 h.row h.len
  have HFS := show Hid _ from fun w => firstState_any w
  have HI := show Hid _ from h
  have HS := show Hid _ from hst
  clear h hst hl0
  go_enter Tryz.func89, Tryz.ntmps89
  go_wp2_with fail
  refine (HFS.out _).mono ?_
  rintro e w1 ⟨rfl, hBel⟩
  have hrow1 := (hBel.block g (World.block_lt_of_cell? _ _ c72)).trans HI.out.row
  obtain ⟨hS1, hS2⟩ := row_st50 (w := w1) hrow1 HI.out.len first8
  have H : Hid (HashAt (w1.setRow g (hC first8 b0 l.length).toArray) g l (st l) b0) := by
    rw [HS.out]
    exact ⟨setRow_heap _ _ _ _ _ _ hrow1, HI.out.len, HI.out.rest, first8_lt, fun _ => HS.out.symm, HI.out.fit⟩
  have HO0 : Hid (Only g w (w1.setRow g (hC first8 b0 l.length).toArray)) := (hBel.only g).setRow _
  clear hrow1 hBel HI HFS HS
  generalize hW0 : w1.setRow g (hC first8 b0 l.length).toArray = w0 at hS2 H HO0
  clear hW0
  generalize c8 first8 = C0 at hS1 hS2 ⊢
  go_wp2
  clear hS1 hS2
  go_loopw [1] (fun x wr => ∃ (l1 : List UInt8) (r : ByteArray) (b1 : List UInt8), x = .string r ∧ Hid (l1 ++ r.data.toList = l ++ s.data.toList) ∧ Hid (HashAt wr g l1 (st l1) b1) ∧ Hid (Only g w wr)) (fun x _ => (strOf x).size)
  case atStart => exact ⟨l, s, b0, rfl, rfl, H, HO0⟩
  case round =>
    clear H c72 hb0 HO0
    obtain ⟨l1, r, b1, rfl, HL, H, HO⟩ := hrel
    by_cases hr : r.size = 0
    · have hd : decide (0 < r.size) = false := decide_eq_false (by omega)
      have he : l1 = l ++ s.data.toList := by
        have h0 : r.data.toList = [] := List.length_eq_zero_iff.1 (by rw [← Lib.size_eq]; exact hr)
        have := HL.out
        rw [h0, List.append_nil] at this; exact this
      rw [he] at H
      clear he hr HL
      go_wp2
      go_end0
      exact ⟨rfl, ⟨b1, H.out⟩, HO.out⟩
    · have hr0 : (0 : Int) < (r.size : Int) := by omega
      have c72 := row_c72 H.out.row H.out.len
      have hll : l1.length + r.size < 9223372036854775808 := by
        have := congrArg List.length HL.out
        have e1 : r.data.toList.length = r.size := (by simp)
        have e2 : s.data.toList.length = s.size := (by simp)
        simp only [List.length_append, e1, e2] at this; omega
      obtain ⟨p, hp⟩ : ∃ p, p = l1.length % 64 := ⟨_, rfl⟩
      have hp64 : p < 64 := by omega
      have hpe : ((l1.length : Nat) : Int).tmod 64 = (p : Int) := by rw [Int.tmod_eq_emod_of_nonneg (by omega)]; omega
      obtain ⟨k, hk⟩ : ∃ k, Nat.min r.size (64 - p) = k := ⟨_, rfl⟩
      have hcp := row_copy (w := wr.drew) H.out.row H.out.len r p k hp64 hk 3
      have hkr : k ≤ r.size := by rw [← hk]; exact Nat.min_le_left _ _
      have hkp : k ≤ 64 - p := by rw [← hk]; exact Nat.min_le_right _ _
      have hk1 : 1 ≤ k := by
        rcases Nat.le_total r.size (64 - p) with h | h
        · have : Nat.min r.size (64 - p) = r.size := Nat.min_eq_left h
          omega
        · have : Nat.min r.size (64 - p) = 64 - p := Nat.min_eq_right h
          omega
      have hkx : (r.data.toList.take k).length = k := by rw [List.length_take, ← Lib.size_eq]; omega
      have hb2 : (over b1 p (r.data.toList.take k)).length = 64 := by rw [over_len _ _ _ (by rw [H.out.len, hkx]; omega), H.out.len]
      have hrest := over_rest l1 (r.data.toList.take k) b1 H.out.len H.out.rest (by rw [hkx, ← hp]; omega)
      have hfull := over_full l1 (r.data.toList.take k) b1 H.out.len H.out.rest
      rw [hkx] at hfull
      rw [← hp] at hrest hfull
      obtain ⟨Wa, hWa⟩ : ∃ Wa, Wa = wr.drew.setRow g (hC (st l1) (over b1 p (r.data.toList.take k)) l1.length).toArray := ⟨_, rfl⟩
      have hrowA : Wa.heap[g]? = some (.cells (hC (st l1) (over b1 p (r.data.toList.take k)) l1.length).toArray 154 (0, 0)) := by rw [hWa]; exact setRow_heap _ _ _ _ _ _ H.out.row
      have hOA : Only g w Wa := by rw [hWa]; exact (HO.out.drew1).setRow _
      rw [← hWa] at hcp
      have c72a := row_c72 hrowA hb2
      have f72a : Wa.frozen? ⟨g, 72, none⟩ = false := frozen_of_row _ _ _ _ _ hrowA
      have HX : Hid (r.data.toList = r.data.toList.take k ++ (r.extract k r.size).data.toList) := by
        show _ = _
        have e : (r.data.toList.drop k).take (r.size - k) = r.data.toList.drop k := List.take_of_length_le (by simp)
        rw [Lib.extract_data, e, List.take_append_drop]
      generalize over b1 p (r.data.toList.take k) = b2 at hb2 hrest hfull hrowA
      generalize r.data.toList.take k = x at hkx hrest hfull HX
      have q0 : (0 : Int) ≤ (p : Int) := by omega
      have q1 : (p : Int) ≤ 64 := by omega
      have hsum : (l1.length : Int) + (k : Int) ≤ 18446744073709551615 := by omega
      have Hk := show Hid _ from hk
      have Hp := show Hid _ from hp
      have HrA := show Hid _ from hrowA
      have HOA := show Hid _ from hOA
      have Hkx := show Hid _ from hkx
      have Hb2 := show Hid _ from hb2
      have Hrest := show Hid _ from hrest
      have Hfull := show Hid _ from hfull
      clear hWa hrowA hOA hkx hb2 hrest hfull
      by_cases hf : (l1.length + k) % 64 = 0
      · have hm : ((l1.length : Int) + (k : Int)).tmod 64 = 0 := by rw [Int.tmod_eq_emod_of_nonneg (by omega)]; omega
        have hrowB := row_size HrA.out Hb2.out (l1.length + k)
        have ec : (((l1.length + k : Nat)) : Int) = (l1.length : Int) + (k : Int) := by omega
        rw [ec] at hrowB
        have HrB := show Hid _ from hrowB
        obtain ⟨hA1, hA2⟩ := row_ld50 (w := (Wa.setCell ⟨g, 72, none⟩ (.int .u64 ((l1.length : Int) + (k : Int)))).drew) hrowB
        obtain ⟨hB1, hB2⟩ := row_ld51 (w := (Wa.setCell ⟨g, 72, none⟩ (.int .u64 ((l1.length : Int) + (k : Int)))).drew) hrowB Hb2.out
        have HMX := show Hid _ from fun w => mixed_any (st l1) b2 w (st_lt l1) Hb2.out
        have HST : Hid (st (l1 ++ x) = mix (st l1) b2) := by
          show _ = _
          rw [st_full l1 x (by rw [Hkx.out]; rw [← Hp.out]; omega), Hfull.out (by omega)]
        clear hk hp hrowB ec
        generalize hC8 : c8 (st l1) = C8 at hA2 HMX
        generalize hBB : (bs b2).toArray = BB at hB2 HMX
        clear hC8 hBB
        go_wp2
        go_region_held3 (fun w' => w'.cell? ⟨g, 72, none⟩ = some (.int .u64 ((l1.length : Nat) : Int))) (go_keep) (fail)
        go_wp2
        go_region_with (go_at_call 113; refine (HMX.out _).mono ?_; rintro e w1 ⟨rfl, hBel⟩; obtain ⟨hS1, hS2⟩ := row_st50 (w := w1) ((hBel.block g (World.block_lt_of_cell? _ _ (row_c72 (w := (Wa.setCell ⟨g, 72, none⟩ (.int .u64 ((l1.length : Int) + (k : Int)))).drew) HrB.out Hb2.out))).trans HrB.out) Hb2.out (mix (st l1) b2))
        all_goals
          have HL2 : Hid ((l1 ++ x) ++ (r.extract k r.size).data.toList = l ++ s.data.toList) := by show _ = _; rw [List.append_assoc, ← HX.out, HL.out]
          have HH : Hid (HashAt (w1.setRow g (hC (mix (st l1) b2) b2 (l1.length + k)).toArray) g (l1 ++ x) (st (l1 ++ x)) b2) :=
            hash_next (setRow_heap _ _ _ _ _ _ ((hBel.block g (World.block_lt_of_cell? _ _ (row_c72 (w := (Wa.setCell ⟨g, 72, none⟩ (.int .u64 ((l1.length : Int) + (k : Int)))).drew) HrB.out Hb2.out))).trans HrB.out)) Hb2.out Hkx.out Hrest.out HST.out (by omega)
          have HO2 : Hid (Only g w (w1.setRow g (hC (mix (st l1) b2) b2 (l1.length + k)).toArray)) := (((HOA.out.setCell 72 _).drew1).trans (hBel.only g)).setRow _
          have hsz := size_next r k hk1 hkr
          clear hS1 hS2 hBel HX HL H HO
          go_wp2
          exact ⟨⟨l1 ++ x, _, b2, rfl, HL2, HH, HO2⟩, hsz⟩
      · obtain ⟨q, hq⟩ : ∃ q, q = (l1.length + k) % 64 := ⟨_, rfl⟩
        have hm : ((l1.length : Int) + (k : Int)).tmod 64 = (q : Int) := by rw [Int.tmod_eq_emod_of_nonneg (by omega)]; omega
        have hq0 : ((q : Int) == 0) = false := by rw [beq_eq_false_iff_ne]; omega
        have hrowB := row_size HrA.out Hb2.out (l1.length + k)
        have ec : (((l1.length + k : Nat)) : Int) = (l1.length : Int) + (k : Int) := by omega
        rw [ec] at hrowB
        have HST : Hid (st (l1 ++ x) = st l1) := st_some l1 x (by rw [Hkx.out, ← Hp.out]; rw [hp] at hkp; omega)
        have HL2 : Hid ((l1 ++ x) ++ (r.extract k r.size).data.toList = l ++ s.data.toList) := by show _ = _; rw [List.append_assoc, ← HX.out, HL.out]
        have HH : Hid (HashAt (Wa.setCell ⟨g, 72, none⟩ (.int .u64 ((l1.length : Int) + (k : Int)))) g (l1 ++ x) (st (l1 ++ x)) b2) := hash_next hrowB Hb2.out Hkx.out Hrest.out HST.out (by omega)
        have HO2 : Hid (Only g w (Wa.setCell ⟨g, 72, none⟩ (.int .u64 ((l1.length : Int) + (k : Int))))) := HOA.out.setCell 72 _
        have hsz := size_next r k hk1 hkr
        clear hk hp hrowB ec hq HX HL H HO
        go_wp2
        go_region_held3 (fun w' => w'.cell? ⟨g, 72, none⟩ = some (.int .u64 ((l1.length : Nat) : Int))) (go_keep) (fail)
        go_wp2
        exact ⟨⟨l1 ++ x, _, b2, rfl, HL2, HH, HO2⟩, hsz⟩

/-- a hash takes bytes in -/
theorem hwrite_any (g : Nat) (l : List UInt8) (s0 : St8) (b0 : List UInt8) (s : ByteArray) (w : World) (h : HashAt w g l s0 b0) (hfit : l.length + s.size < 9223372036854775808) :
    Calls Tryz.prog 89 #[.pointer (some ⟨g, 0, none⟩), .string s] w fun e w' => e = .returned (.tuple #[]) ∧ (∃ b1, HashAt w' g (l ++ s.data.toList) (st (l ++ s.data.toList)) b1) ∧ Only g w w' := by
  by_cases hl : l = []
  · exact write_none g l s0 b0 s w h hl hfit
  · exact write_some g l s0 b0 s w h hl hfit

set_option maxRecDepth 100000 in
set_option maxHeartbeats 400000 in
theorem write_nil (s : ByteArray) (w : World) :
    Calls Tryz.prog 89 #[.pointer none, .string s] w fun e w' => e = .returned (.tuple #[]) ∧ w' = w := by
  go_enter Tryz.func89, Tryz.ntmps89
  go_wp2
  exact bodyPost_ret (results_none Tryz.results89 _ _ _) rfl ⟨rfl, rfl⟩
end Go.Proofs.YtedogofeibdjiaaGreat
