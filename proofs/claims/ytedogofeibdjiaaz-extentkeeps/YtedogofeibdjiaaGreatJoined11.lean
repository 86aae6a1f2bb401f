/- Joined: The walk of the schedule of a block. The walk of the mixing of a block. -/
import Derived.Test.YtedogofeibdjiaaGreatBlk
import Derived.Deep.RegionHeld3
import Derived.Deep.QuietTactic
import Derived.BigQuiet
namespace Go.Proofs.YtedogofeibdjiaaGreat
open Go.RowKit
set_option linter.unusedVariables false

/-- words, filled up with zeros -/
def full (l : List Nat) : List Nat := l ++ List.replicate (64 - l.length) 0
theorem full_len (l : List Nat) (h : l.length ≤ 64) : (full l).length = 64 := by simp [full]; omega
theorem full_set (l : List Nat) (x : Nat) (h : l.length < 64) : (full l).set l.length x = full (l ++ [x]) := by
  unfold full
  rw [List.set_append_right _ _ (Nat.le_refl _), Nat.sub_self]
  obtain ⟨m, hm⟩ : ∃ m, 64 - l.length = m + 1 := ⟨63 - l.length, by omega⟩
  rw [hm, List.replicate_succ, List.set_cons_zero, List.length_append, List.length_singleton, show 64 - (l.length + 1) = m by omega]
  simp
theorem full_full (l : List Nat) (h : l.length = 64) : full l = l := by simp [full, h]
theorem us_set (l : List Nat) (i x : Nat) : (us l).set i (.int .u32 (x : Int)) = us (l.set i x) := by simp [us, List.map_set]
theorem us_at (l : List Nat) (i : Nat) (h : i < l.length) : (us l).toArray[i]? = some (.int .u32 ((l.getD i 0 : Nat) : Int)) := by
  simp [us, h]
theorem full_at (l : List Nat) (i : Nat) (h : i < l.length) (h2 : l.length ≤ 64) : (us (full l)).toArray[i]? = some (.int .u32 ((l.getD i 0 : Nat) : Int)) := by
  rw [us_at _ _ (by rw [full_len l h2]; omega)]
  simp [full, List.getElem?_append_left h]
theorem bs_at (l : List UInt8) (i : Nat) (h : i < l.length) : (bs l).toArray[i]? = some (.int .u8 ((l.getD i 0).toNat : Int)) := by
  simp [bs, h]

theorem addr_ne {a b x y : Nat} (h : a ≠ b) : (⟨a, x, none⟩ : Addr) ≠ ⟨b, y, none⟩ := fun e => h (by injection e)
theorem getD_lt (l : List Nat) (i : Nat) (h : ∀ x ∈ l, x < 4294967296) : l.getD i 0 < 4294967296 := by
  rw [List.getD_eq_getElem?_getD]
  cases hx : l[i]? with
  | none => decide
  | some x => exact h x (List.mem_of_getElem? hx)
theorem wNext_is (l : List Nat) (m : Nat) (h : l.length = m) : wNext l = (l.getD (m - 16) 0 + older (l.getD (m - 15) 0) + l.getD (m - 7) 0 + newer (l.getD (m - 2) 0)) % 4294967296 := by subst h; rfl
theorem word_lt (b : List UInt8) (i : Nat) : word b i < 4294967296 := by
  unfold word
  have h0 := UInt8.toNat_lt (b.getD (4 * i) 0)
  have h1 := UInt8.toNat_lt (b.getD (4 * i + 1) 0)
  have h2 := UInt8.toNat_lt (b.getD (4 * i + 2) 0)
  have h3 := UInt8.toNat_lt (b.getD (4 * i + 3) 0)
  omega
theorem wFirst_all (b : List UInt8) (k : Nat) : ∀ x ∈ wFirst b k, x < 4294967296 := by
  induction k with
  | zero => intro x hx; simp [wFirst] at hx
  | succ k ih =>
    intro x hx
    simp only [wFirst, List.mem_append, List.mem_singleton] at hx
    rcases hx with hx | rfl
    · exact ih x hx
    · exact word_lt b k
theorem wGrow_all (k : Nat) (l : List Nat) (h : ∀ x ∈ l, x < 4294967296) : ∀ x ∈ wGrow k l, x < 4294967296 := by
  induction k generalizing l with
  | zero => exact h
  | succ k ih =>
    refine ih _ ?_
    intro x hx
    simp only [List.mem_append, List.mem_singleton] at hx
    rcases hx with hx | rfl
    · exact h x hx
    · exact Nat.mod_lt _ (by decide)
theorem wds_all (b : List UInt8) : ∀ x ∈ wds b, x < 4294967296 := wGrow_all _ _ (wFirst_all b 16)
/-- as the walk writes them -/
theorem older_is (x : Nat) (h : x < 4294967296) : bits .xor .u32 (bits .xor .u32 ((rot x 7 : Nat) : Int) ((rot x 18 : Nat) : Int)) ((x : Int) / 8) = ((older x : Nat) : Int) := by
  rw [show ((x : Int) / 8) = ((x / 2 ^ 3 : Nat) : Int) by omega, dbits_xor_u32 _ _ (rot_lt x 7 h) (rot_lt x 18 h), dbits_xor_u32 _ _ (dxor32 _ _ (rot_lt x 7 h) (rot_lt x 18 h)) (div32 x 3 h)]; rfl
theorem newer_is (x : Nat) (h : x < 4294967296) : bits .xor .u32 (bits .xor .u32 ((rot x 17 : Nat) : Int) ((rot x 19 : Nat) : Int)) ((x : Int) / 1024) = ((newer x : Nat) : Int) := by
  rw [show ((x : Int) / 1024) = ((x / 2 ^ 10 : Nat) : Int) by omega, dbits_xor_u32 _ _ (rot_lt x 17 h) (rot_lt x 19 h), dbits_xor_u32 _ _ (dxor32 _ _ (rot_lt x 17 h) (rot_lt x 19 h)) (div32 x 10 h)]; rfl
/-- what lies in memory while a schedule is made -/
structure Sch (n : Nat) (b : List UInt8) (w wr : World) (l : List Nat) : Prop where
  blk : wr.heap[n]? = some (.cells (bs b).toArray 152 (0, 0))
  res : wr.heap[n + 1]? = some (.cells z64 170 (0, 0))
  row : wr.heap[n + 1 + 1]? = some (.cells (us (full l)).toArray 170 (0, 0))
  bel : Below n w wr
theorem Sch.bcell {n : Nat} {b : List UInt8} {w wr : World} {l : List Nat} (h : Sch n b w wr l) (j : Nat) (hj : j < b.length) : wr.cell? ⟨n, j, none⟩ = some (.int .u8 ((b.getD j 0).toNat : Int)) := by
  rw [cell_of_row _ _ _ _ _ _ h.blk, bs_at _ _ hj]
theorem Sch.bcellI {n : Nat} {b : List UInt8} {w wr : World} {l : List Nat} (h : Sch n b w wr l) (o j : Nat) (ho : o = j) (hj : j < b.length) : wr.cell? ⟨n, o, none⟩ = some (.int .u8 ((b.getD j 0).toNat : Int)) := by
  subst ho; exact h.bcell _ hj
theorem Sch.wcellI {n : Nat} {b : List UInt8} {w wr : World} {l : List Nat} (h : Sch n b w wr l) (o j : Nat) (ho : o = j) (hj : j < l.length) (hl : l.length ≤ 64) : wr.cell? ⟨n + 1 + 1, o, none⟩ = some (.int .u32 ((l.getD j 0 : Nat) : Int)) := by
  subst ho; rw [cell_of_row _ _ _ _ _ _ h.row, full_at _ _ hj hl]
theorem Sch.wcell {n : Nat} {b : List UInt8} {w wr : World} {l : List Nat} (h : Sch n b w wr l) (j : Nat) (hj : j < l.length) (hl : l.length ≤ 64) : wr.cell? ⟨n + 1 + 1, j, none⟩ = some (.int .u32 ((l.getD j 0 : Nat) : Int)) := by
  rw [cell_of_row _ _ _ _ _ _ h.row, full_at _ _ hj hl]
theorem Sch.put {n : Nat} {b : List UInt8} {w wr : World} {l : List Nat} (h : Sch n b w wr l) (x : Nat) (hl : l.length < 64) : Sch n b w (wr.setCell ⟨n + 1 + 1, l.length, none⟩ (.int .u32 (x : Int))) (l ++ [x]) := by
  refine ⟨?_, ?_, ?_, ?_⟩
  · rw [heap_setCell_other _ _ _ _ (by simp; omega)]; exact h.blk
  · rw [heap_setCell_other _ _ _ _ (by simp)]; exact h.res
  · rw [heap_setCell_same _ _ _ _ _ _ h.row, List.setIfInBounds_toArray, us_set, full_set _ _ hl]
  · exact h.bel.setCell (by simp; omega) _
theorem Sch.drew {n : Nat} {b : List UInt8} {w wr : World} {l : List Nat} (h : Sch n b w wr l) (k : Nat) : Sch n b w (wr.drewN k) l := 
  ⟨by rw [World.heap_drewN]; exact h.blk, by rw [World.heap_drewN]; exact h.res, by rw [World.heap_drewN]; exact h.row, below_drewN h.bel k⟩
theorem Sch.drew1 {n : Nat} {b : List UInt8} {w wr : World} {l : List Nat} (h : Sch n b w wr l) : Sch n b w wr.drew l := h.drew 1
theorem heap_alloc_at (w : World) (o : Obj) (k : Nat) (h : k = w.heap.size) : (w.alloc o).heap[k]? = some o := by subst h; exact heap_alloc_new w o
theorem heap_alloc2_old' (w : World) (A B : Obj) (k : Nat) (h : k = w.heap.size) : ((w.alloc A).alloc B).heap[k]? = some A := by subst h; exact heap_alloc2_old w A B

/-- a word of a block, as the walk writes it -/
theorem word_is (a b c d : UInt8) :
    bits .or .u32 (bits .or .u32 (bits .or .u32 (IntKind.u32.wrap (IntKind.u32.wrap (a.toNat : Int) * 16777216)) (IntKind.u32.wrap (IntKind.u32.wrap (b.toNat : Int) * 65536))) (IntKind.u32.wrap (IntKind.u32.wrap (c.toNat : Int) * 256))) (IntKind.u32.wrap (d.toNat : Int)) = ((a.toNat * 16777216 + b.toNat * 65536 + c.toNat * 256 + d.toNat : Nat) : Int) := by
  have ha : a.toNat < 256 := UInt8.toNat_lt a
  have hb : b.toNat < 256 := UInt8.toNat_lt b
  have hc : c.toNat < 256 := UInt8.toNat_lt c
  have hd : d.toNat < 256 := UInt8.toNat_lt d
  generalize a.toNat = a at *
  generalize b.toNat = b at *
  generalize c.toNat = c at *
  generalize d.toNat = d at *
  have e1 : IntKind.u32.wrap (IntKind.u32.wrap (a : Int) * 16777216) = ((a * 16777216 : Nat) : Int) := by simp only [IntKind.wrap_u32]; omega
  have e2 : IntKind.u32.wrap (IntKind.u32.wrap (b : Int) * 65536) = ((b * 65536 : Nat) : Int) := by simp only [IntKind.wrap_u32]; omega
  have e3 : IntKind.u32.wrap (IntKind.u32.wrap (c : Int) * 256) = ((c * 256 : Nat) : Int) := by simp only [IntKind.wrap_u32]; omega
  have e4 : IntKind.u32.wrap (d : Int) = (d : Int) := by simp only [IntKind.wrap_u32]; omega
  have o1 := or_is_add (b * 65536) a 24 (by omega)
  have o2 := or_is_add (c * 256) (a * 256 + b) 16 (by omega)
  have o3 := or_is_add d (a * 65536 + b * 256 + c) 8 (by omega)
  rw [Nat.or_comm] at o1 o2 o3
  rw [e1, e2, e4, bits_or_u32 _ _ (by omega) (by omega), show a * 16777216 = a * 2 ^ 24 by omega, o1, e3, bits_or_u32 _ _ (by omega) (by omega), show b * 65536 + a * 2 ^ 24 = (a * 256 + b) * 2 ^ 16 by omega, o2, bits_or_u32 _ _ (by omega) (by omega), show c * 256 + (a * 256 + b) * 2 ^ 16 = (a * 65536 + b * 256 + c) * 2 ^ 8 by omega, o3]
  omega

set_option maxRecDepth 100000 in
set_option maxHeartbeats 800000 in
theorem schedule_any (b : List UInt8) (w : World) (hb : b.length = 64) :
    Calls Tryz.prog 126 #[.agg (bs b).toArray] w fun e w' => e = .returned (.agg (us (wds b)).toArray) ∧ Below w.heap.size w w' := by
  have hbox : ∀ w, (Instr.box 152 (.agg (bs b).toArray)).run Tryz.prog w = .ok (.pointer (some ⟨w.heap.size, 0, none⟩)) (w.alloc (.cells (bs b).toArray 152)) := fun w => rfl
  have HB := show Hid _ from hb
  have h0 : Sch w.heap.size b w (((w.alloc (.cells (bs b).toArray 152)).alloc (.cells z64 170)).alloc (.cells z64 170)) (wFirst b 0) := by
    refine ⟨?_, ?_, ?_, ?_⟩
    · rw [heap_alloc_old _ _ (by simp; omega), heap_alloc_old _ _ (by simp), heap_alloc_new]
    · rw [heap_alloc2_old' _ _ _ _ (by simp)]
    · exact heap_alloc_at _ _ _ (by simp)
    · exact (((Below.refl _ _).alloc (Nat.le_refl _) _).alloc (by simp) _).alloc (by simp; omega) _
  have H0 := show Hid _ from h0
  clear h0
  generalize hB : (bs b).toArray = B at hbox H0 ⊢
  have HBB := show Hid _ from hB
  clear hB hb
  generalize hG : (us (wds b)).toArray = G
  have HG := show Hid _ from hG
  clear hG
  go_enter Tryz.func126, Tryz.ntmps126
  go_wp2_with (first
    | (refine wpl_alloc 170 z64 alloc61 rfl rfl ?_)
    | (refine wpl_box 152 _ B hbox rfl rfl rfl ?_))
  go_loopw [8] (fun i wr => ∃ k : Nat, k ≤ 16 ∧ i = .int .i64 k ∧ Hid (Sch w.heap.size b w wr (wFirst b k))) (fun i _ => 16 - (intOf i).toNat)
  case atStart => exact ⟨0, by omega, rfl, H0⟩
  case round =>
    clear H0
    obtain ⟨k, hk, rfl, HS⟩ := hrel
    by_cases hlt : k < 16
    · have hk0 : (0 : Int) ≤ (k : Int) := by omega
      have hk1 : (k : Int) < 16 := by omega
      have e0 : IntKind.i64.wrap (4 * (k : Int)) = 4 * (k : Int) := by rw [IntKind.wrap_i64]; omega
      have e1 : IntKind.i64.wrap (4 * (k : Int) + 1) = 4 * (k : Int) + 1 := by rw [IntKind.wrap_i64]; omega
      have e2 : IntKind.i64.wrap (4 * (k : Int) + 2) = 4 * (k : Int) + 2 := by rw [IntKind.wrap_i64]; omega
      have e3 : IntKind.i64.wrap (4 * (k : Int) + 3) = 4 * (k : Int) + 3 := by rw [IntKind.wrap_i64]; omega
      have p0 : (0 : Int) ≤ 4 * (k : Int) := by omega
      have q0 : 4 * (k : Int) < 64 := by omega
      have p1 : (0 : Int) ≤ 4 * (k : Int) + 1 := by omega
      have q1 : 4 * (k : Int) + 1 < 64 := by omega
      have p2 : (0 : Int) ≤ 4 * (k : Int) + 2 := by omega
      have q2 : 4 * (k : Int) + 2 < 64 := by omega
      have p3 : (0 : Int) ≤ 4 * (k : Int) + 3 := by omega
      have q3 : 4 * (k : Int) + 3 < 64 := by omega
      have q4 : (k : Int) < 64 := by omega
      have hl := wFirst_len b k
      have HP := show Hid _ from HS.out.put (word b k) (by omega)
      rw [hl] at HP
      have HW : Hid (_ = ((word b k : Nat) : Int)) := word_is (b.getD (4 * k) 0) (b.getD (4 * k + 1) 0) (b.getD (4 * k + 2) 0) (b.getD (4 * k + 3) 0)
      have HP2 : Hid (∀ X : Int, X = ((word b k : Nat) : Int) → Sch w.heap.size b w (wr.setCell ⟨w.heap.size + 1 + 1, k, none⟩ (.int .u32 X)).drew (wFirst b (k + 1))) := fun X hX => by rw [hX]; exact HP.out.drew1
      clear HP
      generalize word b k = WK at HW HP2
      have c0 := HS.out.bcellI (4 * (k : Int)).toNat (4 * k) (by omega) (by rw [HB.out]; omega)
      have c1 := HS.out.bcellI (4 * (k : Int) + 1).toNat (4 * k + 1) (by omega) (by rw [HB.out]; omega)
      have c2 := HS.out.bcellI (4 * (k : Int) + 2).toNat (4 * k + 2) (by omega) (by rw [HB.out]; omega)
      have c3 := HS.out.bcellI (4 * (k : Int) + 3).toNat (4 * k + 3) (by omega) (by rw [HB.out]; omega)
      have c4 : wr.cell? ⟨w.heap.size + 1 + 1, k, none⟩ = some (.int .u32 ((0 : Nat) : Int)) := by
        rw [cell_of_row _ _ _ _ _ _ HS.out.row, us_at _ _ (by rw [full_len _ (by omega)]; omega)]
        rw [List.getD_eq_getElem?_getD, full, List.getElem?_append_right (by omega), hl, Nat.sub_self, List.getElem?_replicate, if_pos (by omega)]; rfl
      have f4 : wr.frozen? ⟨w.heap.size + 1 + 1, k, none⟩ = false := frozen_of_row _ _ _ _ _ HS.out.row
      clear hl
      generalize b.getD (4 * k) 0 = b0 at c0 HW
      generalize b.getD (4 * k + 1) 0 = b1 at c1 HW
      generalize b.getD (4 * k + 2) 0 = b2 at c2 HW
      generalize b.getD (4 * k + 3) 0 = b3 at c3 HW
      go_wp2
      go_region_held3 (fun w' => w'.cell? ⟨w.heap.size, (4 * (k : Int)).toNat, none⟩ = some (.int .u8 (b0.toNat : Int)) ∧ w'.cell? ⟨w.heap.size, (4 * (k : Int) + 1).toNat, none⟩ = some (.int .u8 (b1.toNat : Int)) ∧ w'.cell? ⟨w.heap.size, (4 * (k : Int) + 2).toNat, none⟩ = some (.int .u8 (b2.toNat : Int)) ∧ w'.cell? ⟨w.heap.size, (4 * (k : Int) + 3).toNat, none⟩ = some (.int .u8 (b3.toNat : Int))) (first | exact ⟨(World.cell?_setCell_other _ _ _ _ (addr_ne (by omega))).trans c0, (World.cell?_setCell_other _ _ _ _ (addr_ne (by omega))).trans c1, (World.cell?_setCell_other _ _ _ _ (addr_ne (by omega))).trans c2, (World.cell?_setCell_other _ _ _ _ (addr_ne (by omega))).trans c3⟩ | go_keep) (fail)
      go_wp2
      go_roundw
      case rel => exact ⟨k + 1, by omega, by go_num, HP2.out _ HW.out⟩
      case measure => simp [intOf]; omega
    · have H1 : Hid (Sch w.heap.size b w wr (wGrow 0 (wFirst b 16))) := by have e : k = 16 := (by omega); rw [e] at HS; exact HS
      have hd : decide ((k : Int) < 16) = false := by simp; omega
      clear HS hlt hk
      go_wp2
      go_loopw [5] (fun i wr => ∃ m : Nat, 16 ≤ m ∧ m ≤ 64 ∧ i = .int .i64 m ∧ Hid (Sch w.heap.size b w wr (wGrow (m - 16) (wFirst b 16)))) (fun i _ => 64 - (intOf i).toNat)
      case atStart => exact ⟨16, by omega, by omega, rfl, H1⟩
      case round =>
        clear H1
        obtain ⟨m, hm, hm2, rfl, HS⟩ := hrel
        have hl : (wGrow (m - 16) (wFirst b 16)).length = m := by rw [wGrow_len, wFirst_len]; omega
        by_cases hlt : m < 64
        · have hm0 : (16 : Int) ≤ (m : Int) := by omega
          have hm1 : (m : Int) < 64 := by omega
          have e15 : IntKind.i64.wrap ((m : Int) - 15) = (m : Int) - 15 := by rw [IntKind.wrap_i64]; omega
          have e2 : IntKind.i64.wrap ((m : Int) - 2) = (m : Int) - 2 := by rw [IntKind.wrap_i64]; omega
          have e16 : IntKind.i64.wrap ((m : Int) - 16) = (m : Int) - 16 := by rw [IntKind.wrap_i64]; omega
          have e7 : IntKind.i64.wrap ((m : Int) - 7) = (m : Int) - 7 := by rw [IntKind.wrap_i64]; omega
          have p15 : (15 : Int) ≤ (m : Int) := by omega
          have q15 : (m : Int) - 15 < 64 := by omega
          have p2 : (2 : Int) ≤ (m : Int) := by omega
          have q2 : (m : Int) - 2 < 64 := by omega
          have p16 : (16 : Int) ≤ (m : Int) := by omega
          have q16 : (m : Int) - 16 < 64 := by omega
          have p7 : (7 : Int) ≤ (m : Int) := by omega
          have q7 : (m : Int) - 7 < 64 := by omega
          have p0 : (0 : Int) ≤ (m : Int) := by omega
          have hall := wGrow_all (m - 16) (wFirst b 16) (wFirst_all b 16)
          have HN := show Hid _ from wNext_is _ m hl
          have HP : Hid (∀ (q : Nat) (X : Int), X = ((wNext (wGrow (m - 16) (wFirst b 16)) : Nat) : Int) → Sch w.heap.size b w ((wr.drewN q).setCell ⟨w.heap.size + 1 + 1, m, none⟩ (.int .u32 X)).drew (wGrow (m + 1 - 16) (wFirst b 16))) := by
            intro q X hX
            have := ((HS.out.drew q).put (wNext (wGrow (m - 16) (wFirst b 16))) (by omega)).drew1
            rw [hl] at this
            rw [hX, show m + 1 - 16 = (m - 16) + 1 by omega, wGrow_snoc]
            exact this
          have c15 := HS.out.wcellI ((m : Int) - 15).toNat (m - 15) (by omega) (by omega) (by omega)
          have c2 := HS.out.wcellI ((m : Int) - 2).toNat (m - 2) (by omega) (by omega) (by omega)
          have c16 := HS.out.wcellI ((m : Int) - 16).toNat (m - 16) (by omega) (by omega) (by omega)
          have c7 := HS.out.wcellI ((m : Int) - 7).toNat (m - 7) (by omega) (by omega) (by omega)
          have c0 : ∃ u, wr.cell? ⟨w.heap.size + 1 + 1, m, none⟩ = some u := by
            rw [cell_of_row _ _ _ _ _ _ HS.out.row, us_at _ _ (by rw [full_len _ (by omega)]; omega)]; exact ⟨_, rfl⟩
          obtain ⟨u0, c0⟩ := c0
          have f0 : wr.frozen? ⟨w.heap.size + 1 + 1, m, none⟩ = false := frozen_of_row _ _ _ _ _ HS.out.row
          have b15 := getD_lt _ (m - 15) hall
          have b2 := getD_lt _ (m - 2) hall
          have b16 := getD_lt _ (m - 16) hall
          have b7 := getD_lt _ (m - 7) hall
          clear hl hall HS
          generalize (wGrow (m - 16) (wFirst b 16)).getD (m - 15) 0 = x15 at HN c15 b15
          generalize (wGrow (m - 16) (wFirst b 16)).getD (m - 2) 0 = x2 at HN c2 b2
          generalize (wGrow (m - 16) (wFirst b 16)).getD (m - 16) 0 = x16 at HN c16 b16
          generalize (wGrow (m - 16) (wFirst b 16)).getD (m - 7) 0 = x7 at HN c7 b7
          generalize wNext (wGrow (m - 16) (wFirst b 16)) = NX at HP HN
          have R7 := show Hid _ from fun w => rotl7 x15 w b15
          have R18 := show Hid _ from fun w => rotl18 x15 w b15
          have R17 := show Hid _ from fun w => rotl17 x2 w b2
          have R19 := show Hid _ from fun w => rotl19 x2 w b2
          have HO := show Hid _ from older_is x15 b15
          have HNW := show Hid _ from newer_is x2 b2
          generalize rot x15 7 = r7 at R7 HO
          generalize rot x15 18 = r18 at R18 HO
          generalize rot x2 17 = r17 at R17 HNW
          generalize rot x2 19 = r19 at R19 HNW
          generalize older x15 = O at HO HN
          generalize newer x2 = N at HNW HN
          go_wp2
          go_region_held3 (fun w' => w'.cell? ⟨w.heap.size + 1 + 1, ((m : Int) - 15).toNat, none⟩ = some (.int .u32 (x15 : Int)) ∧ w'.cell? ⟨w.heap.size + 1 + 1, ((m : Int) - 2).toNat, none⟩ = some (.int .u32 (x2 : Int))) (go_keep) (first | (go_at_call 143; with_reducible (refine (R7.out _).mono ?_); rintro e w' ⟨rfl, rfl⟩) | (go_at_call 143; with_reducible (refine (R18.out _).mono ?_); rintro e w' ⟨rfl, rfl⟩))
          go_wp2
          go_region_held3 (fun w' => w'.cell? ⟨w.heap.size + 1 + 1, ((m : Int) - 15).toNat, none⟩ = some (.int .u32 (x15 : Int)) ∧ w'.cell? ⟨w.heap.size + 1 + 1, ((m : Int) - 2).toNat, none⟩ = some (.int .u32 (x2 : Int))) (go_keep) (first | (go_at_call 143; with_reducible (refine (R17.out _).mono ?_); rintro e w' ⟨rfl, rfl⟩) | (go_at_call 143; with_reducible (refine (R19.out _).mono ?_); rintro e w' ⟨rfl, rfl⟩))
          go_wp2
          go_region_held3 (fun w' => w'.cell? ⟨w.heap.size + 1 + 1, ((m : Int) - 16).toNat, none⟩ = some (.int .u32 (x16 : Int)) ∧ w'.cell? ⟨w.heap.size + 1 + 1, ((m : Int) - 7).toNat, none⟩ = some (.int .u32 (x7 : Int))) (first | exact ⟨(World.cell?_setCell_other _ _ _ _ (fun e => by injection e with _ e; omega)).trans c16, (World.cell?_setCell_other _ _ _ _ (fun e => by injection e with _ e; omega)).trans c7⟩ | go_keep) (fail)
          go_wp2
          go_roundw
          case rel => exact ⟨m + 1, by omega, by omega, by go_num, HP.out 2 _ (by rw [HO.out, HNW.out, HN.out]; omega)⟩
          case measure => simp [intOf]; omega
        · have hd2 : decide ((m : Int) < 64) = false := by simp; omega
          have H2 : Hid (Sch w.heap.size b w wr (wds b)) := by have e : m = 64 := (by omega); rw [e] at HS; exact HS
          have hG := HG.out
          have HR : Hid (wr.heap[w.heap.size + 1 + 1]? = some (.cells G 170 (0, 0))) := by have := H2.out.row; rw [full_full _ (wds_len b), hG] at this; exact this
          have HZ : Hid (wr.heap[w.heap.size + 1]? = some (.cells z64 170 (0, 0))) := H2.out.res
          have HGs : Hid (G.size = 64) := by show G.size = 64; rw [← hG]; simp [us_len, wds_len]
          have HGa : Hid (G.all (·.oneCell') = true) := by show _ = true; rw [← hG]; exact us_all _
          have HBel : Hid (Below w.heap.size w wr) := H2.out.bel
          clear HS hlt hm2 hl hG H2 HG
          go_wp2_with (first
            | (refine wpList_load_row rfl 170 _ rfl (w.heap.size + 1 + 1) rfl 170 G (0, 0) _ HR.out Tryz.underlying170 rfl (by rw [HGs.out]; exact info61) ?_)
            | (refine wpList_store_row rfl 170 _ _ rfl (w.heap.size + 1) G rfl rfl 170 z64 HZ.out (by rw [HGs.out]; exact info61) (by rw [HGs.out]; rfl) HGa.out ?_))
          exact bodyPost_ret (v := .agg G) (results_cell_row (p := 2) rfl _ _ (w.heap.size + 1) 170 G (0, 0) _ rfl (setRow_heap _ _ _ _ _ _ HZ.out) Tryz.underlying170 rfl (by rw [HGs.out]; exact info61)) rfl ⟨rfl, HBel.out.trans ⟨rfl, rfl, rfl, by simp, fun k hk => setRow_other _ _ _ _ (by omega)⟩⟩
end Go.Proofs.YtedogofeibdjiaaGreat
namespace Go.Proofs.YtedogofeibdjiaaGreat
open Go.RowKit
set_option linter.unusedVariables false

/-- eight words within 32 bits -/
structure Lt8 (s : St8) : Prop where
  a : s.a < 4294967296
  b : s.b < 4294967296
  c : s.c < 4294967296
  d : s.d < 4294967296
  e : s.e < 4294967296
  f : s.f < 4294967296
  g : s.g < 4294967296
  h : s.h < 4294967296
theorem rnd_lt (s : St8) (k w : Nat) (h : Lt8 s) : Lt8 (rnd s k w) := ⟨Nat.mod_lt _ (by decide), h.a, h.b, h.c, Nat.mod_lt _ (by decide), h.e, h.f, h.g⟩
theorem add8_lt (s t : St8) : Lt8 (add8 s t) := ⟨Nat.mod_lt _ (by decide), Nat.mod_lt _ (by decide), Nat.mod_lt _ (by decide), Nat.mod_lt _ (by decide), Nat.mod_lt _ (by decide), Nat.mod_lt _ (by decide), Nat.mod_lt _ (by decide), Nat.mod_lt _ (by decide)⟩
theorem first8_lt : Lt8 first8 := ⟨by decide, by decide, by decide, by decide, by decide, by decide, by decide, by decide⟩
theorem mixN_lt (n : Nat) (s : St8) (l : List UInt8) (h : Lt8 s) : Lt8 (mixN n s l) := by
  induction n generalizing s l with
  | zero => exact h
  | succ n ih => exact ih _ _ (add8_lt _ _)
theorem st_lt (l : List UInt8) : Lt8 (st l) := mixN_lt _ _ _ first8_lt

/-- the state behind k rounds -/
def rndN (k : Nat) (b : List UInt8) (s : St8) : St8 := rnds (kNums.take k) ((wds b).take k) s
theorem rndN_zero (b : List UInt8) (s : St8) : rndN 0 b s = s := by simp [rndN, rnds]
theorem rndN_all (b : List UInt8) (s : St8) : rndN 64 b s = rnds kNums (wds b) s := by
  unfold rndN
  rw [List.take_of_length_le (by rw [kNums_len]; omega), List.take_of_length_le (by rw [wds_len]; omega)]
theorem rndN_succ (k : Nat) (b : List UInt8) (s : St8) (h : k < 64) : rndN (k + 1) b s = rnd (rndN k b s) (kNums.getD k 0) ((wds b).getD k 0) := by
  have hk : k < kNums.length := by rw [kNums_len]; exact h
  have hw : k < (wds b).length := by rw [wds_len]; exact h
  unfold rndN
  rw [List.take_succ_eq_append_getElem hk, List.take_succ_eq_append_getElem hw, rnds_snoc _ _ _ _ _ (by simp; omega)]
  simp [hk, hw]
theorem rndN_lt (k : Nat) (b : List UInt8) (s : St8) (h : Lt8 s) (hk : k ≤ 64) : Lt8 (rndN k b s) := by
  induction k with
  | zero => rw [rndN_zero]; exact h
  | succ k ih => rw [rndN_succ k b s (by omega)]; exact rnd_lt _ _ _ (ih (by omega))

/-- an operation on one value -/
theorem wpl_un {P : Program} {ops : Array Oper} {rest : List Oper} {o : Oper} {a : Act} {w : World} {Q : Exit → Act → World → Prop} (op : UnOp) (ty : TypeId) (x : Operand) (v u : Value) (h : ∀ w, (Op.unary op v).run P w = .ok u w)
    (hg : o.guard = none) (ho : o.op = .unOp op ty x) (hx : a.eval x = v) (k : wpList P ops Q rest (a.put o.dst u) w) : wpList P ops Q (o :: rest) a w :=
  wpl_value hg _ _ (by unfold execOp; simp only [ho, hx, Sem.run_bind, h w, Result.andThen_ok, Sem.run_pure]) k
theorem dnot32 (c : Nat) (h : c < 4294967296) : 4294967295 ^^^ c = 4294967295 - c := by
  have h1 : ~~~ (BitVec.ofNat 32 c) = BitVec.allOnes 32 ^^^ BitVec.ofNat 32 c := by
    apply BitVec.eq_of_getElem_eq
    intro i hi
    rw [BitVec.getElem_not, BitVec.getElem_xor, BitVec.getElem_allOnes, Bool.true_xor]
  have h2 := congrArg BitVec.toNat h1
  rw [BitVec.toNat_not, BitVec.toNat_xor, BitVec.toNat_allOnes, BitVec.toNat_ofNat, Nat.mod_eq_of_lt h] at h2
  exact h2.symm
theorem dnot_is (c : Nat) (h : c < 4294967296) : bits .xor .u32 IntKind.u32.max (c : Int) = ((4294967295 - c : Nat) : Int) := by
  rw [show IntKind.u32.max = ((4294967295 : Nat) : Int) by decide, dbits_xor_u32 _ _ (by decide) h, dnot32 c h]
theorem not_run (x : Nat) (h : x < 4294967296) (w : World) : (Op.unary .xor (.int .u32 (x : Int))).run Tryz.prog w = .ok (.int .u32 ((4294967295 - x : Nat) : Int)) w := by
  rw [← dnot_is x h]
  rfl
/-- as the walk writes them -/
theorem chosen_is (e f g : Nat) (he : e < 4294967296) (hf : f < 4294967296) (hg : g < 4294967296) : bits .xor .u32 (bits .and .u32 (e : Int) (f : Int)) (bits .and .u32 ((4294967295 - e : Nat) : Int) (g : Int)) = ((chosen e f g : Nat) : Int) := by
  rw [dbits_and_u32 _ _ he hf, dbits_and_u32 _ _ (by omega) hg, dbits_xor_u32 _ _ (and32 _ _ he) (and32 _ _ (by omega))]; rfl
theorem most_is (a b c : Nat) (ha : a < 4294967296) (hb : b < 4294967296) (hc : c < 4294967296) : bits .xor .u32 (bits .xor .u32 (bits .and .u32 (a : Int) (b : Int)) (bits .and .u32 (a : Int) (c : Int))) (bits .and .u32 (b : Int) (c : Int)) = ((most a b c : Nat) : Int) := by
  rw [dbits_and_u32 _ _ ha hb, dbits_and_u32 _ _ ha hc, dbits_and_u32 _ _ hb hc, dbits_xor_u32 _ _ (and32 _ _ ha) (and32 _ _ ha), dbits_xor_u32 _ _ (dxor32 _ _ (and32 _ _ ha) (and32 _ _ ha)) (and32 _ _ hb)]; rfl
theorem chosen_lt (e f g : Nat) (he : e < 4294967296) : chosen e f g < 4294967296 := dxor32 _ _ (and32 _ _ he) (and32 _ _ (by omega))
theorem most_lt (a b c : Nat) (ha : a < 4294967296) (hb : b < 4294967296) : most a b c < 4294967296 := dxor32 _ _ (dxor32 _ _ (and32 _ _ ha) (and32 _ _ ha)) (and32 _ _ hb)
/-- a value is built of parts -/
theorem wpl_build {P : Program} {ops : Array Oper} {rest : List Oper} {o : Oper} {a : Act} {w : World} {Q : Exit → Act → World → Prop} (t : TypeId) (parts : Array (Nat × Operand)) (vals : Array (Nat × Value)) (v : Value) (h : ∀ w, (Instr.build t vals).run P w = .ok v w)
    (hg : o.guard = none) (ho : o.op = .build t parts) (hv : (parts.map fun (i, x) => (i, a.eval x)) = vals) (k : wpList P ops Q rest (a.put o.dst v) w) : wpList P ops Q (o :: rest) a w :=
  wpl_value hg _ _ (by unfold execOp; simp only [ho]; rw [hv]; simp only [Sem.run_bind, h w, Result.andThen_ok, Sem.run_pure]) k
theorem build50 (a b c d e f g h : Int) (w : World) : (Instr.build 151 #[(0, .int .u32 a), (1, .int .u32 b), (2, .int .u32 c), (3, .int .u32 d), (4, .int .u32 e), (5, .int .u32 f), (6, .int .u32 g), (7, .int .u32 h)]).run Tryz.prog w = .ok (.agg #[.int .u32 a, .int .u32 b, .int .u32 c, .int .u32 d, .int .u32 e, .int .u32 f, .int .u32 g, .int .u32 h]) w := by kernel_rfl
theorem wpl_store8 {ops : Array Oper} {rest : List Oper} {o : Oper} {a : Act} {w : World} {Q : Exit → Act → World → Prop} (ty : TypeId) (x y : Operand) (g : Nat) (xa xb xc xd xe xf xg xh : Int)
    (hi : (Tryz.prog.info? ty).map (·.size) = some 8) (hz : w.heap[g]? = some (.cells z8 ty (0, 0)))
    (hg : o.guard = none) (ho : o.op = .store ty x y) (hx : a.eval x = .pointer (some ⟨g, 0, none⟩)) (hy : a.eval y = .agg #[.int .u32 xa, .int .u32 xb, .int .u32 xc, .int .u32 xd, .int .u32 xe, .int .u32 xf, .int .u32 xg, .int .u32 xh])
    (k : wpList Tryz.prog ops Q rest (a.put o.dst undef) (w.setRow g #[.int .u32 xa, .int .u32 xb, .int .u32 xc, .int .u32 xd, .int .u32 xe, .int .u32 xf, .int .u32 xg, .int .u32 xh])) : wpList Tryz.prog ops Q (o :: rest) a w :=
  wpList_store_row hg ty x y ho g _ hx hy ty z8 hz hi rfl (all_oneCell_toArray (cs := [.int .u32 xa, .int .u32 xb, .int .u32 xc, .int .u32 xd, .int .u32 xe, .int .u32 xf, .int .u32 xg, .int .u32 xh]) (by intro v hv; simp at hv; rcases hv with h | h | h | h | h | h | h | h <;> (subst h; rfl))) k
theorem c8_eq (s t : St8) (xa xb xc xd xe xf xg xh : Int) (ha : xa = (((s.a + t.a) % 4294967296 : Nat) : Int)) (hb : xb = (((s.b + t.b) % 4294967296 : Nat) : Int)) (hc : xc = (((s.c + t.c) % 4294967296 : Nat) : Int)) (hd : xd = (((s.d + t.d) % 4294967296 : Nat) : Int)) (he : xe = (((s.e + t.e) % 4294967296 : Nat) : Int)) (hf : xf = (((s.f + t.f) % 4294967296 : Nat) : Int)) (hg : xg = (((s.g + t.g) % 4294967296 : Nat) : Int)) (hh : xh = (((s.h + t.h) % 4294967296 : Nat) : Int)) : #[.int .u32 xa, .int .u32 xb, .int .u32 xc, .int .u32 xd, .int .u32 xe, .int .u32 xf, .int .u32 xg, .int .u32 xh] = c8 (add8 s t) := by
  subst ha hb hc hd he hf hg hh; rfl
/-- what lies in memory while a block is mixed in -/
structure Mix (n p q : Nat) (s : St8) (W : Array Value) (w wr : World) : Prop where
  old : wr.heap[n]? = some (.cells (c8 s) 151 (0, 0))
  res : wr.heap[n + 1 + 1]? = some (.cells z8 151 (0, 0))
  wor : wr.heap[p]? = some (.cells W 170 (0, 0))
  num : wr.heap[q]? = some (.cells kCells 170 (0, 0))
  bel : Below n w wr
theorem Mix.drew1 {n p q : Nat} {s : St8} {W : Array Value} {w wr : World} (h : Mix n p q s W w wr) : Mix n p q s W w wr.drew :=
  ⟨h.old, h.res, h.wor, h.num, below_drewN h.bel 1⟩
theorem _root_.Go.RowKit.Below.heap {B : Nat} {w w' : World} (h : Below B w w') (k : Nat) (hk : k < B) : w'.heap[k]? = w.heap[k]? := h.block k hk

theorem mix_start (s : St8) (B W : Array Value) (w w2 w3 : World) (h2 : Below (((w.alloc (.cells (c8 s) 151)).alloc (.cells B 152)).alloc (.cells z8 151)).heap.size (((w.alloc (.cells (c8 s) 151)).alloc (.cells B 152)).alloc (.cells z8 151)) w2)
    (h3 : Below (w2.alloc (.cells W 170)).heap.size (w2.alloc (.cells W 170)) w3) :
    Mix w.heap.size w2.heap.size w3.heap.size s W w (w3.alloc (.cells kCells 170)) := by
  have s2 := h2.size
  have s3 := h3.size
  simp at s2 s3
  have e : ∀ k, k < w.heap.size + 3 → (w3.alloc (.cells kCells 170)).heap[k]? = (((w.alloc (.cells (c8 s) 151)).alloc (.cells B 152)).alloc (.cells z8 151)).heap[k]? := fun k hk => by
    rw [heap_alloc_old _ _ (by omega), h3.block k (by simp; omega), heap_alloc_old _ _ (by omega), h2.block k (by simp; omega)]
  refine ⟨?_, ?_, ?_, ?_, ?_⟩
  · rw [e _ (by omega), heap_alloc_old _ _ (by simp; omega), heap_alloc_old _ _ (by simp), heap_alloc_new]
  · rw [e _ (by omega)]; exact heap_alloc_at _ _ _ (by simp)
  · rw [heap_alloc_old _ _ (by omega), h3.block _ (by simp), heap_alloc_new]
  · exact heap_alloc_new _ _
  · have b1 : Below w.heap.size w (((w.alloc (.cells (c8 s) 151)).alloc (.cells B 152)).alloc (.cells z8 151)) := (((Below.refl _ _).alloc (Nat.le_refl _) _).alloc (by simp) _).alloc (by simp; omega) _
    have b2 := (b1.trans (h2.mono (by simp; omega))).alloc (by omega) (.cells W 170)
    exact (b2.trans (h3.mono (by simp; omega))).alloc (by omega) _

theorem Mix.oldcell {n p q : Nat} {s : St8} {W : Array Value} {w wr : World} (h : Mix n p q s W w wr) (j : Nat) : wr.cell? ⟨n, j, none⟩ = (c8 s)[j]? := cell_of_row _ _ _ _ _ _ h.old

set_option maxRecDepth 100000 in
set_option maxHeartbeats 4000000 in
theorem mixed_any (s : St8) (b : List UInt8) (w : World) (hs : Lt8 s) (hb : b.length = 64) :
    Calls Tryz.prog 113 #[.agg (c8 s), .agg (bs b).toArray] w fun e w' => e = .returned (.agg (c8 (mix s b))) ∧ Below w.heap.size w w' := by
  have hbox : ∀ w, (Instr.box 152 (.agg (bs b).toArray)).run Tryz.prog w = .ok (.pointer (some ⟨w.heap.size, 0, none⟩)) (w.alloc (.cells (bs b).toArray 152)) := fun w => rfl
  have hbox2 : ∀ w, (Instr.box 151 (.agg (c8 s))).run Tryz.prog w = .ok (.pointer (some ⟨w.heap.size, 0, none⟩)) (w.alloc (.cells (c8 s) 151)) := fun w => rfl
  have HSch := show Hid _ from fun w => schedule_any b w hb
  have HNum := show Hid _ from fun w => roundNumbers_any w
  have hBs : (bs b).toArray.size = 64 := by simp [bs_len, hb]
  have hW := wds_len b
  have hWs : (us (wds b)).toArray.size = 64 := by simp [us_len, hW]
  have hWa := us_all (wds b)
  have hBi : (Tryz.prog.info? 152).map (·.size) = some (bs b).toArray.size := by rw [hBs]; exact info51
  have hWi : (Tryz.prog.info? 170).map (·.size) = some (us (wds b)).toArray.size := by rw [hWs]; exact info61
  have HBi := show Hid _ from hBi
  have HWi := show Hid _ from hWi
  have HWs := show Hid _ from hWs
  have HWa := show Hid _ from hWa
  clear hBi hWi hWs hWa hBs
  generalize hBe : (bs b).toArray = B at hbox HSch HBi ⊢
  generalize hWe : (us (wds b)).toArray = W at HSch HWi HWs HWa
  generalize hC : c8 s = C at hbox2 ⊢
  have HC := show Hid _ from hC
  have HW := show Hid _ from hWe
  clear hC hWe hBe
  have HZW : Hid (z64.size = W.size) := by show z64.size = W.size; rw [HWs.out]; rfl
  have HZK : Hid (z64.size = kCells.size) := by show z64.size = kCells.size; rw [kCells_size]; rfl
  have HKi : Hid ((Tryz.prog.info? 170).map (·.size) = some kCells.size) := by show _ = _; rw [kCells_size]; exact info61
  have HKa : Hid (kCells.all (·.oneCell') = true) := us_all _
  generalize hKC : kCells = KC at HNum HZK HKi HKa
  have HKC := show Hid _ from hKC
  clear hKC
  generalize hZ : z64 = Z at HZK HZW
  have HZ := show Hid _ from hZ
  have hal : ∀ w, (Instr.alloc 170 true (.tuple #[])).run Tryz.prog w = .ok (.pointer (some ⟨w.heap.size, 0, none⟩)) (w.alloc (.cells Z 170)) := fun w => by rw [← hZ]; exact alloc61 w
  clear hZ
  go_enter Tryz.func113, Tryz.ntmps113
  go_wp2_with (with_reducible (refine wpl_id ?_); first
    | (refine wpl_alloc 151 z8 alloc50 rfl rfl ?_)
    | (refine wpl_box 152 _ B hbox rfl rfl rfl ?_)
    | (refine wpl_box 151 _ C hbox2 rfl rfl rfl ?_)
    | (refine wpList_load_row rfl 152 _ rfl _ rfl 152 B (0, 0) _ (heap_alloc2_old' _ _ _ _ (by simp)) Tryz.underlying152 rfl HBi.out ?_))
  refine (HSch.out _).mono ?_
  rintro e w2 ⟨rfl, hB2⟩
  go_wp2_with (with_reducible (refine wpl_id ?_); first
    | (refine wpl_alloc 170 Z hal rfl rfl ?_)
    | (refine wpl_store_new 170 _ _ _ W w2 Z rfl rfl HWi.out HZW.out HWa.out rfl rfl rfl rfl ?_))
  refine (HNum.out _).mono ?_
  rintro e w3 ⟨rfl, hB3⟩
  go_wp2_with (with_reducible (refine wpl_id ?_); first
    | (refine wpl_alloc 170 Z hal rfl rfl ?_)
    | (refine wpl_store_new 170 _ _ _ KC w3 Z rfl rfl HKi.out HZK.out HKa.out rfl rfl rfl rfl ?_))
  have HM : Hid (Mix w.heap.size w2.heap.size w3.heap.size s W w (w3.alloc (.cells KC 170))) := by
    have hC := HC.out
    have hK := HKC.out
    subst hC
    subst hK
    exact mix_start s B W w w2 w3 hB2 hB3
  clear hB2 hB3 HSch HNum hbox hbox2 HBi
  generalize w3.alloc (.cells KC 170) = w4 at HM ⊢
  have k0 : w4.cell? ⟨w.heap.size, 0, none⟩ = some (.int .u32 (s.a : Int)) := HM.out.oldcell 0
  have k1 : w4.cell? ⟨w.heap.size, 1, none⟩ = some (.int .u32 (s.b : Int)) := HM.out.oldcell 1
  have k2 : w4.cell? ⟨w.heap.size, 2, none⟩ = some (.int .u32 (s.c : Int)) := HM.out.oldcell 2
  have k3 : w4.cell? ⟨w.heap.size, 3, none⟩ = some (.int .u32 (s.d : Int)) := HM.out.oldcell 3
  have k4 : w4.cell? ⟨w.heap.size, 4, none⟩ = some (.int .u32 (s.e : Int)) := HM.out.oldcell 4
  have k5 : w4.cell? ⟨w.heap.size, 5, none⟩ = some (.int .u32 (s.f : Int)) := HM.out.oldcell 5
  have k6 : w4.cell? ⟨w.heap.size, 6, none⟩ = some (.int .u32 (s.g : Int)) := HM.out.oldcell 6
  have k7 : w4.cell? ⟨w.heap.size, 7, none⟩ = some (.int .u32 (s.h : Int)) := HM.out.oldcell 7
  go_region_held3 (fun w' => w'.cell? ⟨w.heap.size, 0, none⟩ = some (.int .u32 (s.a : Int)) ∧ w'.cell? ⟨w.heap.size, 1, none⟩ = some (.int .u32 (s.b : Int)) ∧ w'.cell? ⟨w.heap.size, 2, none⟩ = some (.int .u32 (s.c : Int)) ∧ w'.cell? ⟨w.heap.size, 3, none⟩ = some (.int .u32 (s.d : Int)) ∧ w'.cell? ⟨w.heap.size, 4, none⟩ = some (.int .u32 (s.e : Int)) ∧ w'.cell? ⟨w.heap.size, 5, none⟩ = some (.int .u32 (s.f : Int)) ∧ w'.cell? ⟨w.heap.size, 6, none⟩ = some (.int .u32 (s.g : Int)) ∧ w'.cell? ⟨w.heap.size, 7, none⟩ = some (.int .u32 (s.h : Int))) (go_keep) (fail)
  have HM2 : Hid (Mix w.heap.size w2.heap.size w3.heap.size s W w w4.drew) := HM.out.drew1
  clear k0 k1 k2 k3 k4 k5 k6 k7 HM
  go_wp2
  go_loopw [7, 8, 9, 10, 11, 12, 13, 14, 38] (fun sa sb sc sd se sf sg sh i wr => ∃ (k ta tb tc td te tf tg th : Nat), k ≤ 64 ∧ i = .int .i64 k ∧ sa = .int .u32 (ta : Int) ∧ sb = .int .u32 (tb : Int) ∧ sc = .int .u32 (tc : Int) ∧ sd = .int .u32 (td : Int) ∧ se = .int .u32 (te : Int) ∧ sf = .int .u32 (tf : Int) ∧ sg = .int .u32 (tg : Int) ∧ sh = .int .u32 (th : Int) ∧ ta ≤ 4294967295 ∧ tb ≤ 4294967295 ∧ tc ≤ 4294967295 ∧ td ≤ 4294967295 ∧ te ≤ 4294967295 ∧ tf ≤ 4294967295 ∧ tg ≤ 4294967295 ∧ th ≤ 4294967295 ∧ Hid ((⟨ta, tb, tc, td, te, tf, tg, th⟩ : St8) = rndN k b s) ∧ Hid (Mix w.heap.size w2.heap.size w3.heap.size s W w wr)) (fun _ _ _ _ _ _ _ _ i _ => 64 - (intOf i).toNat)
  case atStart => exact ⟨0, s.a, s.b, s.c, s.d, s.e, s.f, s.g, s.h, by omega, rfl, rfl, rfl, rfl, rfl, rfl, rfl, rfl, rfl, Nat.le_of_lt_succ hs.a, Nat.le_of_lt_succ hs.b, Nat.le_of_lt_succ hs.c, Nat.le_of_lt_succ hs.d, Nat.le_of_lt_succ hs.e, Nat.le_of_lt_succ hs.f, Nat.le_of_lt_succ hs.g, Nat.le_of_lt_succ hs.h, (rndN_zero b s).symm, HM2⟩
  case round =>
    clear HM2
    obtain ⟨k, ta, tb, tc, td, te, tf, tg, th, hk, rfl, rfl, rfl, rfl, rfl, rfl, rfl, rfl, rfl, la, lb, lc, ld, le, lf, lg, lh, HR, HM⟩ := hrel
    by_cases hlt : k < 64
    · have hk0 : (0 : Int) ≤ (k : Int) := by omega
      have hk1 : (k : Int) < 64 := by omega
      have HR2 := show Hid _ from rndN_succ k b s hlt
      have hR := HR.out
      rw [← hR] at HR2
      have hcN : wr.cell? ⟨w3.heap.size, k, none⟩ = some (.int .u32 ((kNums.getD k 0 : Nat) : Int)) := by rw [cell_of_row _ _ _ _ _ _ HM.out.num]; exact kCells_at k hlt
      have hcW : wr.cell? ⟨w2.heap.size, k, none⟩ = some (.int .u32 (((wds b).getD k 0 : Nat) : Int)) := by rw [cell_of_row _ _ _ _ _ _ HM.out.wor, ← HW.out]; exact us_at _ _ (by rw [wds_len]; exact hlt)
      generalize kNums.getD k 0 = K at hcN HR2
      generalize (wds b).getD k 0 = X at hcW HR2
      have T6 := show Hid _ from fun w => turned6 te w (by omega)
      have T2 := show Hid _ from fun w => turned2 ta w (by omega)
      clear hR HR hs hb hW HWi HWs HWa HKi HKa HZK HZW HZ hal HKC HC
      have HU := show Hid _ from not_run te (by omega)
      have HCH := show Hid _ from chosen_is te tf tg (by omega) (by omega) (by omega)
      have HMO := show Hid _ from most_is ta tb tc (by omega) (by omega) (by omega)
      have lng : 4294967295 - te ≤ 4294967295 := by omega
      generalize 4294967295 - te = ng at HU HCH lng
      go_wp2_with (with_reducible (refine wpl_id ?_); refine wpl_un .xor _ _ _ _ HU.out rfl rfl rfl ?_)
      rw [HCH.out, HMO.out]
      go_region_held3 (fun w' => w'.cell? ⟨w3.heap.size, k, none⟩ = some (.int .u32 (K : Int)) ∧ w'.cell? ⟨w2.heap.size, k, none⟩ = some (.int .u32 (X : Int))) (go_keep) ((go_at_call 128; refine (T6.out _).mono ?_; rintro e w' ⟨rfl, rfl⟩))
      go_wp2_with fail
      refine (T2.out _).mono ?_
      rintro e w' ⟨rfl, rfl⟩
      go_wp2
      exact ⟨⟨k + 1, ((th + rot3 te 6 11 25 + chosen te tf tg + K + X) % 4294967296 + rot3 ta 2 13 22 + most ta tb tc) % 4294967296, ta, tb, tc, (td + (th + rot3 te 6 11 25 + chosen te tf tg + K + X) % 4294967296) % 4294967296, te, tf, tg, by omega, by go_num, congrArg (Value.int .u32) (by omega), rfl, rfl, rfl, congrArg (Value.int .u32) (by omega), rfl, rfl, rfl, by omega, la, lb, lc, by omega, le, lf, lg, by show _ = _; rw [HR2.out]; rfl, HM.out.drew1⟩, by simp [intOf]; omega⟩
    · have hR := HR.out
      have e64 : k = 64 := by omega
      have hd : decide ((k : Int) < 64) = false := by simp; omega
      rw [e64, rndN_all] at hR
      have HMX : Hid (mix s b = add8 s ⟨ta, tb, tc, td, te, tf, tg, th⟩) := by show _ = _; rw [hR]; rfl
      have k0 : wr.cell? ⟨w.heap.size, 0, none⟩ = some (.int .u32 (s.a : Int)) := HM.out.oldcell 0
      have k1 : wr.cell? ⟨w.heap.size, 1, none⟩ = some (.int .u32 (s.b : Int)) := HM.out.oldcell 1
      have k2 : wr.cell? ⟨w.heap.size, 2, none⟩ = some (.int .u32 (s.c : Int)) := HM.out.oldcell 2
      have k3 : wr.cell? ⟨w.heap.size, 3, none⟩ = some (.int .u32 (s.d : Int)) := HM.out.oldcell 3
      have k4 : wr.cell? ⟨w.heap.size, 4, none⟩ = some (.int .u32 (s.e : Int)) := HM.out.oldcell 4
      have k5 : wr.cell? ⟨w.heap.size, 5, none⟩ = some (.int .u32 (s.f : Int)) := HM.out.oldcell 5
      have k6 : wr.cell? ⟨w.heap.size, 6, none⟩ = some (.int .u32 (s.g : Int)) := HM.out.oldcell 6
      have k7 : wr.cell? ⟨w.heap.size, 7, none⟩ = some (.int .u32 (s.h : Int)) := HM.out.oldcell 7
      have HZ8 : Hid (wr.heap[w.heap.size + 1 + 1]? = some (.cells z8 151 (0, 0))) := HM.out.res
      have HBel : Hid (Below w.heap.size w wr) := HM.out.bel
      clear hR HR e64 hlt hk HM
      go_wp2_with (with_reducible (refine wpl_id ?_); first
        | (refine wpl_build 151 _ _ _ (build50 _ _ _ _ _ _ _ _) rfl rfl rfl ?_)
        | (refine wpl_store8 151 _ _ (w.heap.size + 1 + 1) _ _ _ _ _ _ _ _ infoBlk HZ8.out rfl rfl rfl rfl ?_))
      refine bodyPost_ret (v := .agg _) (results_cell_row (p := 4) rfl _ _ (w.heap.size + 1 + 1) 151 _ (0, 0) _ rfl (setRow_heap _ _ _ _ _ _ HZ8.out) Tryz.underlying151 rfl infoBlk) rfl ⟨?_, HBel.out.trans ⟨rfl, rfl, rfl, by simp, fun k hk => setRow_other _ _ _ _ (by omega)⟩⟩
      rw [HMX.out]
      exact congrArg (fun x => Ending.returned (.agg x)) (c8_eq s _ _ _ _ _ _ _ _ _ (by dsimp only; omega) (by dsimp only; omega) (by dsimp only; omega) (by dsimp only; omega) (by dsimp only; omega) (by dsimp only; omega) (by dsimp only; omega) (by dsimp only; omega))
end Go.Proofs.YtedogofeibdjiaaGreat
