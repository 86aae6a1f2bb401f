/- The walk of the schedule of a block. -/
import Derived.Test.YtnlodlpjokkepaaBlk
import Derived.Deep.RegionHeld3
import Derived.Deep.QuietTactic
import Derived.BigQuiet
namespace Go.Proofs.Ytnlodlpjokkepaa
open Go.RowKit
set_option linter.unusedVariables false

/-- words, filled up with zeros -/
def full (l : List Nat) : List Nat := l ++ List.replicate (64 - l.length) 0
theorem full_len (l : List Nat) (h : l.length ≤ 64) : (full l).length = 64 := by simp [full]; omega
theorem full_set (l : List Nat) (x : Nat) (h : l.length < 64) : (full l).set l.length x = full (l ++ [x]) := by
  unfold full
  rw [List.set_append_right _ _ (Nat.le_refl _), Nat.sub_self]
  obtain ⟨m, hm⟩ : ∃ m, 64 - l.length = m + 1 := ⟨63 - l.length, by omega⟩
  rw [hm, List.replicate_succ, List.set_cons_zero, List.length_append, List.length_singleton, show 64 - (l.length + 1) = m by omega]
  simp
theorem full_full (l : List Nat) (h : l.length = 64) : full l = l := by simp [full, h]
theorem us_set (l : List Nat) (i x : Nat) : (us l).set i (.int .u32 (x : Int)) = us (l.set i x) := by simp [us, List.map_set]
theorem us_at (l : List Nat) (i : Nat) (h : i < l.length) : (us l).toArray[i]? = some (.int .u32 ((l.getD i 0 : Nat) : Int)) := by
  simp [us, h]
theorem full_at (l : List Nat) (i : Nat) (h : i < l.length) (h2 : l.length ≤ 64) : (us (full l)).toArray[i]? = some (.int .u32 ((l.getD i 0 : Nat) : Int)) := by
  rw [us_at _ _ (by rw [full_len l h2]; omega)]
  simp [full, List.getElem?_append_left h]
theorem bs_at (l : List UInt8) (i : Nat) (h : i < l.length) : (bs l).toArray[i]? = some (.int .u8 ((l.getD i 0).toNat : Int)) := by
  simp [bs, h]

theorem addr_ne {a b x y : Nat} (h : a ≠ b) : (⟨a, x, none⟩ : Addr) ≠ ⟨b, y, none⟩ := fun e => h (by injection e)
theorem getD_lt (l : List Nat) (i : Nat) (h : ∀ x ∈ l, x < 4294967296) : l.getD i 0 < 4294967296 := by
  rw [List.getD_eq_getElem?_getD]
  cases hx : l[i]? with
  | none => decide
  | some x => exact h x (List.mem_of_getElem? hx)
theorem wNext_is (l : List Nat) (m : Nat) (h : l.length = m) : wNext l = (l.getD (m - 16) 0 + older (l.getD (m - 15) 0) + l.getD (m - 7) 0 + newer (l.getD (m - 2) 0)) % 4294967296 := by subst h; rfl
theorem word_lt (b : List UInt8) (i : Nat) : word b i < 4294967296 := by
  unfold word
  have h0 := UInt8.toNat_lt (b.getD (4 * i) 0)
  have h1 := UInt8.toNat_lt (b.getD (4 * i + 1) 0)
  have h2 := UInt8.toNat_lt (b.getD (4 * i + 2) 0)
  have h3 := UInt8.toNat_lt (b.getD (4 * i + 3) 0)
  omega
theorem wFirst_all (b : List UInt8) (k : Nat) : ∀ x ∈ wFirst b k, x < 4294967296 := by
  induction k with
  | zero => intro x hx; simp [wFirst] at hx
  | succ k ih =>
    intro x hx
    simp only [wFirst, List.mem_append, List.mem_singleton] at hx
    rcases hx with hx | rfl
    · exact ih x hx
    · exact word_lt b k
theorem wGrow_all (k : Nat) (l : List Nat) (h : ∀ x ∈ l, x < 4294967296) : ∀ x ∈ wGrow k l, x < 4294967296 := by
  induction k generalizing l with
  | zero => exact h
  | succ k ih =>
    refine ih _ ?_
    intro x hx
    simp only [List.mem_append, List.mem_singleton] at hx
    rcases hx with hx | rfl
    · exact h x hx
    · exact Nat.mod_lt _ (by decide)
theorem wds_all (b : List UInt8) : ∀ x ∈ wds b, x < 4294967296 := wGrow_all _ _ (wFirst_all b 16)
/-- as the walk writes them -/
theorem older_is (x : Nat) (h : x < 4294967296) : bits .xor .u32 (bits .xor .u32 ((rot x 7 : Nat) : Int) ((rot x 18 : Nat) : Int)) ((x : Int) / 8) = ((older x : Nat) : Int) := by
  rw [show ((x : Int) / 8) = ((x / 2 ^ 3 : Nat) : Int) by omega, bits_xor_u32 _ _ (rot_lt x 7 h) (rot_lt x 18 h), bits_xor_u32 _ _ (xor32 _ _ (rot_lt x 7 h) (rot_lt x 18 h)) (div32 x 3 h)]; rfl
theorem newer_is (x : Nat) (h : x < 4294967296) : bits .xor .u32 (bits .xor .u32 ((rot x 17 : Nat) : Int) ((rot x 19 : Nat) : Int)) ((x : Int) / 1024) = ((newer x : Nat) : Int) := by
  rw [show ((x : Int) / 1024) = ((x / 2 ^ 10 : Nat) : Int) by omega, bits_xor_u32 _ _ (rot_lt x 17 h) (rot_lt x 19 h), bits_xor_u32 _ _ (xor32 _ _ (rot_lt x 17 h) (rot_lt x 19 h)) (div32 x 10 h)]; rfl
/-- what lies in memory while a schedule is made -/
structure Sch (n : Nat) (b : List UInt8) (w wr : World) (l : List Nat) : Prop where
  blk : wr.heap[n]? = some (.cells (bs b).toArray 51 (0, 0))
  res : wr.heap[n + 1]? = some (.cells z64 61 (0, 0))
  row : wr.heap[n + 1 + 1]? = some (.cells (us (full l)).toArray 61 (0, 0))
  bel : Below n w wr
theorem Sch.bcell {n : Nat} {b : List UInt8} {w wr : World} {l : List Nat} (h : Sch n b w wr l) (j : Nat) (hj : j < b.length) : wr.cell? ⟨n, j, none⟩ = some (.int .u8 ((b.getD j 0).toNat : Int)) := by
  rw [cell_of_row _ _ _ _ _ _ h.blk, bs_at _ _ hj]
theorem Sch.bcellI {n : Nat} {b : List UInt8} {w wr : World} {l : List Nat} (h : Sch n b w wr l) (o j : Nat) (ho : o = j) (hj : j < b.length) : wr.cell? ⟨n, o, none⟩ = some (.int .u8 ((b.getD j 0).toNat : Int)) := by
  subst ho; exact h.bcell _ hj
theorem Sch.wcellI {n : Nat} {b : List UInt8} {w wr : World} {l : List Nat} (h : Sch n b w wr l) (o j : Nat) (ho : o = j) (hj : j < l.length) (hl : l.length ≤ 64) : wr.cell? ⟨n + 1 + 1, o, none⟩ = some (.int .u32 ((l.getD j 0 : Nat) : Int)) := by
  subst ho; rw [cell_of_row _ _ _ _ _ _ h.row, full_at _ _ hj hl]
theorem Sch.wcell {n : Nat} {b : List UInt8} {w wr : World} {l : List Nat} (h : Sch n b w wr l) (j : Nat) (hj : j < l.length) (hl : l.length ≤ 64) : wr.cell? ⟨n + 1 + 1, j, none⟩ = some (.int .u32 ((l.getD j 0 : Nat) : Int)) := by
  rw [cell_of_row _ _ _ _ _ _ h.row, full_at _ _ hj hl]
theorem Sch.put {n : Nat} {b : List UInt8} {w wr : World} {l : List Nat} (h : Sch n b w wr l) (x : Nat) (hl : l.length < 64) : Sch n b w (wr.setCell ⟨n + 1 + 1, l.length, none⟩ (.int .u32 (x : Int))) (l ++ [x]) := by
  refine ⟨?_, ?_, ?_, ?_⟩
  · rw [heap_setCell_other _ _ _ _ (by simp; omega)]; exact h.blk
  · rw [heap_setCell_other _ _ _ _ (by simp)]; exact h.res
  · rw [heap_setCell_same _ _ _ _ _ _ h.row, List.setIfInBounds_toArray, us_set, full_set _ _ hl]
  · exact h.bel.setCell (by simp; omega) _
theorem Sch.drew {n : Nat} {b : List UInt8} {w wr : World} {l : List Nat} (h : Sch n b w wr l) (k : Nat) : Sch n b w (wr.drewN k) l := 
  ⟨by rw [World.heap_drewN]; exact h.blk, by rw [World.heap_drewN]; exact h.res, by rw [World.heap_drewN]; exact h.row, below_drewN h.bel k⟩
theorem Sch.drew1 {n : Nat} {b : List UInt8} {w wr : World} {l : List Nat} (h : Sch n b w wr l) : Sch n b w wr.drew l := h.drew 1
theorem heap_alloc_at (w : World) (o : Obj) (k : Nat) (h : k = w.heap.size) : (w.alloc o).heap[k]? = some o := by subst h; exact heap_alloc_new w o
theorem heap_alloc2_old' (w : World) (A B : Obj) (k : Nat) (h : k = w.heap.size) : ((w.alloc A).alloc B).heap[k]? = some A := by subst h; exact heap_alloc2_old w A B

/-- a word of a block, as the walk writes it -/
theorem word_is (a b c d : UInt8) :
    bits .or .u32 (bits .or .u32 (bits .or .u32 (IntKind.u32.wrap (IntKind.u32.wrap (a.toNat : Int) * 16777216)) (IntKind.u32.wrap (IntKind.u32.wrap (b.toNat : Int) * 65536))) (IntKind.u32.wrap (IntKind.u32.wrap (c.toNat : Int) * 256))) (IntKind.u32.wrap (d.toNat : Int)) = ((a.toNat * 16777216 + b.toNat * 65536 + c.toNat * 256 + d.toNat : Nat) : Int) := by
  have ha : a.toNat < 256 := UInt8.toNat_lt a
  have hb : b.toNat < 256 := UInt8.toNat_lt b
  have hc : c.toNat < 256 := UInt8.toNat_lt c
  have hd : d.toNat < 256 := UInt8.toNat_lt d
  generalize a.toNat = a at *
  generalize b.toNat = b at *
  generalize c.toNat = c at *
  generalize d.toNat = d at *
  have e1 : IntKind.u32.wrap (IntKind.u32.wrap (a : Int) * 16777216) = ((a * 16777216 : Nat) : Int) := by simp only [IntKind.wrap_u32]; omega
  have e2 : IntKind.u32.wrap (IntKind.u32.wrap (b : Int) * 65536) = ((b * 65536 : Nat) : Int) := by simp only [IntKind.wrap_u32]; omega
  have e3 : IntKind.u32.wrap (IntKind.u32.wrap (c : Int) * 256) = ((c * 256 : Nat) : Int) := by simp only [IntKind.wrap_u32]; omega
  have e4 : IntKind.u32.wrap (d : Int) = (d : Int) := by simp only [IntKind.wrap_u32]; omega
  have o1 := or_is_add (b * 65536) a 24 (by omega)
  have o2 := or_is_add (c * 256) (a * 256 + b) 16 (by omega)
  have o3 := or_is_add d (a * 65536 + b * 256 + c) 8 (by omega)
  rw [Nat.or_comm] at o1 o2 o3
  rw [e1, e2, e4, bits_or_u32 _ _ (by omega) (by omega), show a * 16777216 = a * 2 ^ 24 by omega, o1, e3, bits_or_u32 _ _ (by omega) (by omega), show b * 65536 + a * 2 ^ 24 = (a * 256 + b) * 2 ^ 16 by omega, o2, bits_or_u32 _ _ (by omega) (by omega), show c * 256 + (a * 256 + b) * 2 ^ 16 = (a * 65536 + b * 256 + c) * 2 ^ 8 by omega, o3]
  omega

set_option maxRecDepth 100000 in
set_option maxHeartbeats 800000 in
theorem schedule_any (b : List UInt8) (w : World) (hb : b.length = 64) :
    Calls Try.prog 31 #[.agg (bs b).toArray] w fun e w' => e = .returned (.agg (us (wds b)).toArray) ∧ Below w.heap.size w w' := by
  have hbox : ∀ w, (Instr.box 51 (.agg (bs b).toArray)).run Try.prog w = .ok (.pointer (some ⟨w.heap.size, 0, none⟩)) (w.alloc (.cells (bs b).toArray 51)) := fun w => rfl
  have HB := show Hid _ from hb
  have h0 : Sch w.heap.size b w (((w.alloc (.cells (bs b).toArray 51)).alloc (.cells z64 61)).alloc (.cells z64 61)) (wFirst b 0) := by
    refine ⟨?_, ?_, ?_, ?_⟩
    · rw [heap_alloc_old _ _ (by simp; omega), heap_alloc_old _ _ (by simp), heap_alloc_new]
    · rw [heap_alloc2_old' _ _ _ _ (by simp)]
    · exact heap_alloc_at _ _ _ (by simp)
    · exact (((Below.refl _ _).alloc (Nat.le_refl _) _).alloc (by simp) _).alloc (by simp; omega) _
  have H0 := show Hid _ from h0
  clear h0
  generalize hB : (bs b).toArray = B at hbox H0 ⊢
  have HBB := show Hid _ from hB
  clear hB hb
  generalize hG : (us (wds b)).toArray = G
  have HG := show Hid _ from hG
  clear hG
  go_enter Try.func31, Try.ntmps31
  go_wp2_with (first
    | (refine wpl_alloc 61 z64 alloc61 rfl rfl ?_)
    | (refine wpl_box 51 _ B hbox rfl rfl rfl ?_))
  go_loopw [8] (fun i wr => ∃ k : Nat, k ≤ 16 ∧ i = .int .i64 k ∧ Hid (Sch w.heap.size b w wr (wFirst b k))) (fun i _ => 16 - (intOf i).toNat)
  case atStart => exact ⟨0, by omega, rfl, H0⟩
  case round =>
    clear H0
    obtain ⟨k, hk, rfl, HS⟩ := hrel
    by_cases hlt : k < 16
    · have hk0 : (0 : Int) ≤ (k : Int) := by omega
      have hk1 : (k : Int) < 16 := by omega
      have e0 : IntKind.i64.wrap (4 * (k : Int)) = 4 * (k : Int) := by rw [IntKind.wrap_i64]; omega
      have e1 : IntKind.i64.wrap (4 * (k : Int) + 1) = 4 * (k : Int) + 1 := by rw [IntKind.wrap_i64]; omega
      have e2 : IntKind.i64.wrap (4 * (k : Int) + 2) = 4 * (k : Int) + 2 := by rw [IntKind.wrap_i64]; omega
      have e3 : IntKind.i64.wrap (4 * (k : Int) + 3) = 4 * (k : Int) + 3 := by rw [IntKind.wrap_i64]; omega
      have p0 : (0 : Int) ≤ 4 * (k : Int) := by omega
      have q0 : 4 * (k : Int) < 64 := by omega
      have p1 : (0 : Int) ≤ 4 * (k : Int) + 1 := by omega
      have q1 : 4 * (k : Int) + 1 < 64 := by omega
      have p2 : (0 : Int) ≤ 4 * (k : Int) + 2 := by omega
      have q2 : 4 * (k : Int) + 2 < 64 := by omega
      have p3 : (0 : Int) ≤ 4 * (k : Int) + 3 := by omega
      have q3 : 4 * (k : Int) + 3 < 64 := by omega
      have q4 : (k : Int) < 64 := by omega
      have hl := wFirst_len b k
      have HP := show Hid _ from HS.out.put (word b k) (by omega)
      rw [hl] at HP
      have HW : Hid (_ = ((word b k : Nat) : Int)) := word_is (b.getD (4 * k) 0) (b.getD (4 * k + 1) 0) (b.getD (4 * k + 2) 0) (b.getD (4 * k + 3) 0)
      have HP2 : Hid (∀ X : Int, X = ((word b k : Nat) : Int) → Sch w.heap.size b w (wr.setCell ⟨w.heap.size + 1 + 1, k, none⟩ (.int .u32 X)).drew (wFirst b (k + 1))) := fun X hX => by rw [hX]; exact HP.out.drew1
      clear HP
      generalize word b k = WK at HW HP2
      have c0 := HS.out.bcellI (4 * (k : Int)).toNat (4 * k) (by omega) (by rw [HB.out]; omega)
      have c1 := HS.out.bcellI (4 * (k : Int) + 1).toNat (4 * k + 1) (by omega) (by rw [HB.out]; omega)
      have c2 := HS.out.bcellI (4 * (k : Int) + 2).toNat (4 * k + 2) (by omega) (by rw [HB.out]; omega)
      have c3 := HS.out.bcellI (4 * (k : Int) + 3).toNat (4 * k + 3) (by omega) (by rw [HB.out]; omega)
      have c4 : wr.cell? ⟨w.heap.size + 1 + 1, k, none⟩ = some (.int .u32 ((0 : Nat) : Int)) := by
        rw [cell_of_row _ _ _ _ _ _ HS.out.row, us_at _ _ (by rw [full_len _ (by omega)]; omega)]
        rw [List.getD_eq_getElem?_getD, full, List.getElem?_append_right (by omega), hl, Nat.sub_self, List.getElem?_replicate, if_pos (by omega)]; rfl
      have f4 : wr.frozen? ⟨w.heap.size + 1 + 1, k, none⟩ = false := frozen_of_row _ _ _ _ _ HS.out.row
      clear hl
      generalize b.getD (4 * k) 0 = b0 at c0 HW
      generalize b.getD (4 * k + 1) 0 = b1 at c1 HW
      generalize b.getD (4 * k + 2) 0 = b2 at c2 HW
      generalize b.getD (4 * k + 3) 0 = b3 at c3 HW
      go_wp2
      go_region_held3 (fun w' => w'.cell? ⟨w.heap.size, (4 * (k : Int)).toNat, none⟩ = some (.int .u8 (b0.toNat : Int)) ∧ w'.cell? ⟨w.heap.size, (4 * (k : Int) + 1).toNat, none⟩ = some (.int .u8 (b1.toNat : Int)) ∧ w'.cell? ⟨w.heap.size, (4 * (k : Int) + 2).toNat, none⟩ = some (.int .u8 (b2.toNat : Int)) ∧ w'.cell? ⟨w.heap.size, (4 * (k : Int) + 3).toNat, none⟩ = some (.int .u8 (b3.toNat : Int))) (first | exact ⟨(World.cell?_setCell_other _ _ _ _ (addr_ne (by omega))).trans c0, (World.cell?_setCell_other _ _ _ _ (addr_ne (by omega))).trans c1, (World.cell?_setCell_other _ _ _ _ (addr_ne (by omega))).trans c2, (World.cell?_setCell_other _ _ _ _ (addr_ne (by omega))).trans c3⟩ | go_keep) (fail)
      go_wp2
      go_roundw
      case rel => exact ⟨k + 1, by omega, by go_num, HP2.out _ HW.out⟩
      case measure => simp [intOf]; omega
    · have H1 : Hid (Sch w.heap.size b w wr (wGrow 0 (wFirst b 16))) := by have e : k = 16 := (by omega); rw [e] at HS; exact HS
      have hd : decide ((k : Int) < 16) = false := by simp; omega
      clear HS hlt hk
      go_wp2
      go_loopw [5] (fun i wr => ∃ m : Nat, 16 ≤ m ∧ m ≤ 64 ∧ i = .int .i64 m ∧ Hid (Sch w.heap.size b w wr (wGrow (m - 16) (wFirst b 16)))) (fun i _ => 64 - (intOf i).toNat)
      case atStart => exact ⟨16, by omega, by omega, rfl, H1⟩
      case round =>
        clear H1
        obtain ⟨m, hm, hm2, rfl, HS⟩ := hrel
        have hl : (wGrow (m - 16) (wFirst b 16)).length = m := by rw [wGrow_len, wFirst_len]; omega
        by_cases hlt : m < 64
        · have hm0 : (16 : Int) ≤ (m : Int) := by omega
          have hm1 : (m : Int) < 64 := by omega
          have e15 : IntKind.i64.wrap ((m : Int) - 15) = (m : Int) - 15 := by rw [IntKind.wrap_i64]; omega
          have e2 : IntKind.i64.wrap ((m : Int) - 2) = (m : Int) - 2 := by rw [IntKind.wrap_i64]; omega
          have e16 : IntKind.i64.wrap ((m : Int) - 16) = (m : Int) - 16 := by rw [IntKind.wrap_i64]; omega
          have e7 : IntKind.i64.wrap ((m : Int) - 7) = (m : Int) - 7 := by rw [IntKind.wrap_i64]; omega
          have p15 : (15 : Int) ≤ (m : Int) := by omega
          have q15 : (m : Int) - 15 < 64 := by omega
          have p2 : (2 : Int) ≤ (m : Int) := by omega
          have q2 : (m : Int) - 2 < 64 := by omega
          have p16 : (16 : Int) ≤ (m : Int) := by omega
          have q16 : (m : Int) - 16 < 64 := by omega
          have p7 : (7 : Int) ≤ (m : Int) := by omega
          have q7 : (m : Int) - 7 < 64 := by omega
          have p0 : (0 : Int) ≤ (m : Int) := by omega
          have hall := wGrow_all (m - 16) (wFirst b 16) (wFirst_all b 16)
          have HN := show Hid _ from wNext_is _ m hl
          have HP : Hid (∀ (q : Nat) (X : Int), X = ((wNext (wGrow (m - 16) (wFirst b 16)) : Nat) : Int) → Sch w.heap.size b w ((wr.drewN q).setCell ⟨w.heap.size + 1 + 1, m, none⟩ (.int .u32 X)).drew (wGrow (m + 1 - 16) (wFirst b 16))) := by
            intro q X hX
            have := ((HS.out.drew q).put (wNext (wGrow (m - 16) (wFirst b 16))) (by omega)).drew1
            rw [hl] at this
            rw [hX, show m + 1 - 16 = (m - 16) + 1 by omega, wGrow_snoc]
            exact this
          have c15 := HS.out.wcellI ((m : Int) - 15).toNat (m - 15) (by omega) (by omega) (by omega)
          have c2 := HS.out.wcellI ((m : Int) - 2).toNat (m - 2) (by omega) (by omega) (by omega)
          have c16 := HS.out.wcellI ((m : Int) - 16).toNat (m - 16) (by omega) (by omega) (by omega)
          have c7 := HS.out.wcellI ((m : Int) - 7).toNat (m - 7) (by omega) (by omega) (by omega)
          have c0 : ∃ u, wr.cell? ⟨w.heap.size + 1 + 1, m, none⟩ = some u := by
            rw [cell_of_row _ _ _ _ _ _ HS.out.row, us_at _ _ (by rw [full_len _ (by omega)]; omega)]; exact ⟨_, rfl⟩
          obtain ⟨u0, c0⟩ := c0
          have f0 : wr.frozen? ⟨w.heap.size + 1 + 1, m, none⟩ = false := frozen_of_row _ _ _ _ _ HS.out.row
          have b15 := getD_lt _ (m - 15) hall
          have b2 := getD_lt _ (m - 2) hall
          have b16 := getD_lt _ (m - 16) hall
          have b7 := getD_lt _ (m - 7) hall
          clear hl hall HS
          generalize (wGrow (m - 16) (wFirst b 16)).getD (m - 15) 0 = x15 at HN c15 b15
          generalize (wGrow (m - 16) (wFirst b 16)).getD (m - 2) 0 = x2 at HN c2 b2
          generalize (wGrow (m - 16) (wFirst b 16)).getD (m - 16) 0 = x16 at HN c16 b16
          generalize (wGrow (m - 16) (wFirst b 16)).getD (m - 7) 0 = x7 at HN c7 b7
          generalize wNext (wGrow (m - 16) (wFirst b 16)) = NX at HP HN
          have R7 := show Hid _ from fun w => rotl7 x15 w b15
          have R18 := show Hid _ from fun w => rotl18 x15 w b15
          have R17 := show Hid _ from fun w => rotl17 x2 w b2
          have R19 := show Hid _ from fun w => rotl19 x2 w b2
          have HO := show Hid _ from older_is x15 b15
          have HNW := show Hid _ from newer_is x2 b2
          generalize rot x15 7 = r7 at R7 HO
          generalize rot x15 18 = r18 at R18 HO
          generalize rot x2 17 = r17 at R17 HNW
          generalize rot x2 19 = r19 at R19 HNW
          generalize older x15 = O at HO HN
          generalize newer x2 = N at HNW HN
          go_wp2
          go_region_held3 (fun w' => w'.cell? ⟨w.heap.size + 1 + 1, ((m : Int) - 15).toNat, none⟩ = some (.int .u32 (x15 : Int)) ∧ w'.cell? ⟨w.heap.size + 1 + 1, ((m : Int) - 2).toNat, none⟩ = some (.int .u32 (x2 : Int))) (go_keep) (first | (go_at_call 34; with_reducible (refine (R7.out _).mono ?_); rintro e w' ⟨rfl, rfl⟩) | (go_at_call 34; with_reducible (refine (R18.out _).mono ?_); rintro e w' ⟨rfl, rfl⟩))
          go_wp2
          go_region_held3 (fun w' => w'.cell? ⟨w.heap.size + 1 + 1, ((m : Int) - 15).toNat, none⟩ = some (.int .u32 (x15 : Int)) ∧ w'.cell? ⟨w.heap.size + 1 + 1, ((m : Int) - 2).toNat, none⟩ = some (.int .u32 (x2 : Int))) (go_keep) (first | (go_at_call 34; with_reducible (refine (R17.out _).mono ?_); rintro e w' ⟨rfl, rfl⟩) | (go_at_call 34; with_reducible (refine (R19.out _).mono ?_); rintro e w' ⟨rfl, rfl⟩))
          go_wp2
          go_region_held3 (fun w' => w'.cell? ⟨w.heap.size + 1 + 1, ((m : Int) - 16).toNat, none⟩ = some (.int .u32 (x16 : Int)) ∧ w'.cell? ⟨w.heap.size + 1 + 1, ((m : Int) - 7).toNat, none⟩ = some (.int .u32 (x7 : Int))) (first | exact ⟨(World.cell?_setCell_other _ _ _ _ (fun e => by injection e with _ e; omega)).trans c16, (World.cell?_setCell_other _ _ _ _ (fun e => by injection e with _ e; omega)).trans c7⟩ | go_keep) (fail)
          go_wp2
          go_roundw
          case rel => exact ⟨m + 1, by omega, by omega, by go_num, HP.out 2 _ (by rw [HO.out, HNW.out, HN.out]; omega)⟩
          case measure => simp [intOf]; omega
        · have hd2 : decide ((m : Int) < 64) = false := by simp; omega
          have H2 : Hid (Sch w.heap.size b w wr (wds b)) := by have e : m = 64 := (by omega); rw [e] at HS; exact HS
          have hG := HG.out
          have HR : Hid (wr.heap[w.heap.size + 1 + 1]? = some (.cells G 61 (0, 0))) := by have := H2.out.row; rw [full_full _ (wds_len b), hG] at this; exact this
          have HZ : Hid (wr.heap[w.heap.size + 1]? = some (.cells z64 61 (0, 0))) := H2.out.res
          have HGs : Hid (G.size = 64) := by show G.size = 64; rw [← hG]; simp [us_len, wds_len]
          have HGa : Hid (G.all (·.oneCell') = true) := by show _ = true; rw [← hG]; exact us_all _
          have HBel : Hid (Below w.heap.size w wr) := H2.out.bel
          clear HS hlt hm2 hl hG H2 HG
          go_wp2_with (first
            | (refine wpList_load_row rfl 61 _ rfl (w.heap.size + 1 + 1) rfl 61 G (0, 0) _ HR.out Try.underlying61 rfl (by rw [HGs.out]; exact info61) ?_)
            | (refine wpList_store_row rfl 61 _ _ rfl (w.heap.size + 1) G rfl rfl 61 z64 HZ.out (by rw [HGs.out]; exact info61) (by rw [HGs.out]; rfl) HGa.out ?_))
          exact bodyPost_ret (v := .agg G) (results_cell_row (p := 2) rfl _ _ (w.heap.size + 1) 61 G (0, 0) _ rfl (setRow_heap _ _ _ _ _ _ HZ.out) Try.underlying61 rfl (by rw [HGs.out]; exact info61)) rfl ⟨rfl, HBel.out.trans ⟨rfl, rfl, rfl, by simp, fun k hk => setRow_other _ _ _ _ (by omega)⟩⟩
end Go.Proofs.Ytnlodlpjokkepaa
