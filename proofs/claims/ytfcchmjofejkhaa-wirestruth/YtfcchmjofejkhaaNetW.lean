/- The small calls of a net. -/
import Derived.Test.YtfcchmjofejkhaaNetM
namespace Go.Proofs.Ytfcchmjofejkhaa
open Go.RowKit Go.Maps
set_option linter.unusedVariables false
set_option linter.unusedSimpArgs false

theorem isN_eq (n : Int) : isN n = if 0 ≤ n then decide (n < 7) else false := by
  unfold isN
  by_cases h : 0 ≤ n <;> simp [h]
set_option maxRecDepth 100000 in
theorem isNode_any (n : Int) (w : World) : Calls Try.prog 42 #[.int .i64 n] w fun e w' => e = .returned (.bool (isN n)) ∧ w' = w := by
  by_cases h : 0 ≤ n
  · rw [isN_eq, if_pos h]
    go_enter Try.func42, Try.ntmps42
    go_wp2
    go_ret
    exact ⟨rfl, rfl⟩
  · rw [isN_eq, if_neg h]
    go_enter Try.func42, Try.ntmps42
    go_wp2
    go_ret
    exact ⟨rfl, rfl⟩
set_option maxRecDepth 100000 in
theorem areTwo_any (a b : Int) (w : World) : Calls Try.prog 31 #[.int .i64 a, .int .i64 b] w fun e w' => e = .returned (.bool (two a b)) ∧ w' = w := by
  have HA := hid (fun W => isNode_any a W)
  have HB := hid (fun W => isNode_any b W)
  have HT : Hid (two a b = (isN a && isN b && !decide (a = b))) := rfl
  generalize isN a = xa at *
  generalize isN b = xb at *
  cases xa with
  | false =>
    rw [HT.out]
    go_enter Try.func31, Try.ntmps31
    go_wp2_with fail
    refine (HA.out _).mono ?_
    rintro e w1 ⟨rfl, rfl⟩
    go_wp2
    go_ret
    exact ⟨rfl, rfl⟩
  | true =>
    cases xb with
    | false =>
      rw [HT.out]
      go_enter Try.func31, Try.ntmps31
      go_wp2_with fail
      refine (HA.out _).mono ?_
      rintro e w1 ⟨rfl, rfl⟩
      go_wp2_with fail
      refine (HB.out _).mono ?_
      rintro e w1 ⟨rfl, rfl⟩
      go_wp2
      go_ret
      exact ⟨rfl, rfl⟩
    | true =>
      rw [HT.out]
      go_enter Try.func31, Try.ntmps31
      go_wp2_with fail
      refine (HA.out _).mono ?_
      rintro e w1 ⟨rfl, rfl⟩
      go_wp2_with fail
      refine (HB.out _).mono ?_
      rintro e w1 ⟨rfl, rfl⟩
      clear HA HB HT
      go_wp2
      go_ret
      refine ⟨?_, rfl⟩
      by_cases h : a = b <;> simp [h]
theorem NetR.c0 {w : World} {P : Nat → Prop} {p : Nat} {v : Value} {n : Net} (h : NetR w P p v n) : w.cell? ⟨p, 0, none⟩ = some v := h.row.cellAt rfl
theorem netC_50 (v : Value) (n : Net) (h : n.ct.length = 49) : (netC v n)[50]? = some (.int .i64 n.se) := by
  unfold netC
  rw [List.getElem?_cons_succ, List.getElem?_append_right (by simp [h])]
  simp [h]
theorem netC_51 (v : Value) (n : Net) (h : n.ct.length = 49) : (netC v n)[51]? = some (.int .i64 n.ta) := by
  unfold netC
  rw [List.getElem?_cons_succ, List.getElem?_append_right (by simp [h])]
  simp [h]
theorem netC_52 (v : Value) (n : Net) (h : n.ct.length = 49) : (netC v n)[52]? = some (.int .i64 n.lo) := by
  unfold netC
  rw [List.getElem?_cons_succ, List.getElem?_append_right (by simp [h])]
  simp [h]
theorem netC_ct (v : Value) (n : Net) (k : Nat) (h : n.ct.length = 49) (hk : k < 49) : (netC v n)[k + 1]? = some (.bool (n.ct.getD k false)) := by
  unfold netC
  rw [List.getElem?_cons_succ, List.getElem?_append_left (by simp [h, hk])]
  rw [List.getElem?_map, List.getElem?_eq_getElem (by omega)]
  simp [List.getD, List.getElem?_eq_getElem (show k < n.ct.length by omega)]
theorem netC_set0 (v v' : Value) (n : Net) (L : List Pk) : (netC v n).set 0 v' = netC v' { n with L := L } := rfl
theorem netC_set50 (v : Value) (n : Net) (x : Nat) (h : n.ct.length = 49) : (netC v n).set 50 (.int .i64 x) = netC v { n with se := x } := by
  unfold netC
  rw [List.set_cons_succ, List.set_append_right _ _ (by simp [h])]
  simp [h]
theorem netC_set51 (v : Value) (n : Net) (x : Nat) (h : n.ct.length = 49) : (netC v n).set 51 (.int .i64 x) = netC v { n with ta := x } := by
  unfold netC
  rw [List.set_cons_succ, List.set_append_right _ _ (by simp [h])]
  simp [h]
theorem netC_set52 (v : Value) (n : Net) (x : Nat) (h : n.ct.length = 49) : (netC v n).set 52 (.int .i64 x) = netC v { n with lo := x } := by
  unfold netC
  rw [List.set_cons_succ, List.set_append_right _ _ (by simp [h])]
  simp [h]
theorem netC_setct (v : Value) (n : Net) (k : Nat) (b : Bool) (h : n.ct.length = 49) (hk : k < 49) : (netC v n).set (k + 1) (.bool b) = netC v { n with ct := n.ct.set k b } := by
  unfold netC
  rw [List.set_cons_succ, List.set_append_left _ _ (by simp [h, hk])]
  simp [List.map_set]
set_option maxRecDepth 100000 in
theorem nlen_any (p : Nat) (P : Nat → Prop) (n : Net) (w : World) (h : NetIs w P p n) : Calls Try.prog 15 #[.pointer (some ⟨p, 0, none⟩)] w fun e w' => e = .returned (.int .i64 (n.L.length : Nat)) ∧ w' = w := by
  obtain ⟨v, h⟩ := h
  have h0 := h.c0
  obtain ⟨ad, cap, rfl⟩ := row_form h.own
  clear h
  go_enter Try.func15, Try.ntmps15
  go_wp2
  go_ret
  exact ⟨rfl, rfl⟩
set_option maxRecDepth 100000 in
theorem nlen_nil (w : World) : Calls Try.prog 15 #[.pointer none] w fun e w' => e = .returned (.int .i64 0) ∧ w' = w := by
  go_enter Try.func15, Try.ntmps15
  go_wp2
  go_ret
  exact ⟨rfl, rfl⟩
def hasI (m : Nat) (i : Int) : Bool := decide (0 ≤ i) && decide (i < (m : Int))
set_option maxRecDepth 100000 in
theorem has_of (pv : Value) (m : Nat) (i : Int) (w : World) (h : ∀ W, W = w → Calls Try.prog 15 #[pv] W fun e w' => e = .returned (.int .i64 (m : Nat)) ∧ w' = W) : Calls Try.prog 34 #[pv, .int .i64 i] w fun e w' => e = .returned (.bool (hasI m i)) ∧ w' = w := by
  have HL := hid h
  clear h
  by_cases h : 0 ≤ i
  · have e : hasI m i = decide (i < (m : Int)) := by simp [hasI, h]
    rw [e]
    clear e
    go_enter Try.func34, Try.ntmps34
    go_wp2_with fail
    refine (HL.out _ rfl).mono ?_
    rintro e w1 ⟨rfl, rfl⟩
    go_wp2
    go_ret
    exact ⟨rfl, rfl⟩
  · have e : hasI m i = false := by simp [hasI, h]
    rw [e]
    clear e
    go_enter Try.func34, Try.ntmps34
    go_wp2
    go_ret
    exact ⟨rfl, rfl⟩
theorem nhas_any (p : Nat) (P : Nat → Prop) (n : Net) (i : Int) (w : World) (h : NetIs w P p n) : Calls Try.prog 34 #[.pointer (some ⟨p, 0, none⟩), .int .i64 i] w fun e w' => e = .returned (.bool (hasI n.L.length i)) ∧ w' = w :=
  has_of _ _ i w (fun W e => nlen_any p P n W (e ▸ h))
theorem nhas_nil (i : Int) (w : World) : Calls Try.prog 34 #[.pointer none, .int .i64 i] w fun e w' => e = .returned (.bool false) ∧ w' = w := by
  have h := has_of (.pointer none) 0 i w (fun W e => nlen_nil W)
  have e : hasI 0 i = false := by
    unfold hasI
    by_cases h : 0 ≤ i
    · rw [decide_eq_false (p := i < ((0 : Nat) : Int)) (by omega), Bool.and_false]
    · rw [decide_eq_false h, Bool.false_and]
  rw [e] at h
  exact h
set_option maxRecDepth 100000 in
theorem isFull_any (p : Nat) (P : Nat → Prop) (n : Net) (w : World) (h : NetIs w P p n) : Calls Try.prog 32 #[.pointer (some ⟨p, 0, none⟩)] w fun e w' => e = .returned (.bool (decide (4096 ≤ n.L.length))) ∧ w' = w := by
  obtain ⟨v, h⟩ := h
  have h0 := h.c0
  obtain ⟨ad, cap, rfl⟩ := row_form h.own
  clear h
  have e : decide (4096 ≤ n.L.length) = decide ((4096 : Int) ≤ (n.L.length : Int)) := by
    by_cases h : 4096 ≤ n.L.length
    · rw [decide_eq_true h, decide_eq_true (by omega)]
    · rw [decide_eq_false h, decide_eq_false (by omega)]
  rw [e]
  clear e
  go_enter Try.func32, Try.ntmps32
  go_wp2
  go_ret
  refine ⟨?_, rfl⟩
  first | rfl | simp
set_option maxRecDepth 100000 in
theorem copied_any (x : Pk) (w : World) (hs : x.s.size ≤ 140737488355328) : Calls Try.prog 38 #[pkV x] w fun e w' => e = .returned (pkV x) ∧ Below w.heap.size w w' := by
  have HC := hid (fun W => clone_any x.s W hs)
  obtain ⟨fr, tt, s⟩ := x
  unfold pkV
  simp only at *
  go_enter Try.func38, Try.ntmps38
  go_wp2_with fail
  refine (HC.out _).mono ?_
  rintro e w1 ⟨rfl, hb⟩
  have hsz : (w.alloc (.cells #[.int .i64 fr, .int .i64 tt, .string s] 33)).heap.size = w.heap.size + 1 := by simp
  have k2 : Keep (fun _ => False) w ((w.alloc (.cells #[.int .i64 fr, .int .i64 tt, .string s] 33)).alloc (.cells #[.int .i64 0, .int .i64 0, .string ⟨#[]⟩] 33)) := (keep_alloc _ _ _).trans (keep_alloc _ _ _)
  have hk := hb.keep (fun _ => False)
  have rb : RowIs w1 w.heap.size [.int .i64 fr, .int .i64 tt, .string s] 33 := (RowIs.keep (heap_alloc_new _ _) (keep_alloc (fun _ => False) _ _) (fun h => h)).keep hk (fun h => h)
  have rr : RowIs w1 (w.heap.size + 1) [.int .i64 0, .int .i64 0, .string ⟨#[]⟩] 33 := RowIs.keep (by rw [← hsz]; exact heap_alloc_new _ _) hk (fun h => h)
  have rr2 := rr.keep (keep_setCell w1 w.heap.size 2 (.string s)) (fun h => by omega)
  have HS := hid (three (v0 := .int .i64 fr) (v1 := .int .i64 tt) (v2 := .string s) rr2)
  have HK := hid ((k2.trans hk).then (keep_setCell w1 w.heap.size 2 (.string s)) (fun j hj e => by omega))
  have c0 := rb.cellAt (o := 0) rfl
  have c1 := rb.cellAt (o := 1) rfl
  have c2 := rb.cellAt (o := 2) rfl
  have f2 := rb.frozen (o := 2)
  have g0 := rr.frozen (o := 0)
  have g1 := rr.frozen (o := 1)
  have g2 := rr.frozen (o := 2)
  have z0 := rr.cellAt (o := 0) rfl
  have z1 := rr.cellAt (o := 1) rfl
  have z2 := rr.cellAt (o := 2) rfl
  clear hb hk k2 rb rr rr2 hsz HC
  go_wp2
  refine bodyPost_ret (v := .agg #[.int .i64 fr, .int .i64 tt, .string s]) (npk_cell (p := 2) rfl _ _ (w.heap.size + 1) _ rfl (run_loadVar_row _ _ _ _ _ _ _ HS.out.1 Try.underlying33 rfl (by kernel_rfl))) rfl ⟨rfl, ?_⟩
  exact keep_below ((HK.out).then HS.out.2 (fun j hj e => by omega)) (fun _ _ h => h) (Nat.le_refl _)
end Go.Proofs.Ytfcchmjofejkhaa
