/- A hash in memory: what its cells are, and laws of copying and storing into it. -/
import Derived.Test.YtedogofeibdjiaaGreatEight
import Derived.Test.YtedogofeibdjiaaGreatJoined01
import Derived.Lib.BufferWrite
namespace Go.Proofs.YtedogofeibdjiaaGreat
open Go.RowKit
set_option linter.unusedVariables false

/-- the words of a state -/
def w8 (s : St8) : List Nat := [s.a, s.b, s.c, s.d, s.e, s.f, s.g, s.h]
theorem c8_us (s : St8) : c8 s = (us (w8 s)).toArray := rfl
/-- a hash's cells: its state, its block, its size -/
def hC (s : St8) (b : List UInt8) (n : Nat) : List Value := us (w8 s) ++ (bs b ++ [.int .u64 (n : Int)])
theorem hC_len (s : St8) (b : List UInt8) (n : Nat) (h : b.length = 64) : (hC s b n).length = 73 := by simp [hC, us_len, bs_len, w8, h]
theorem hC_state (s : St8) (b : List UInt8) (n : Nat) : (hC s b n).take 8 = us (w8 s) := by
  unfold hC; rw [List.take_append_of_le_length (by simp [us_len, w8]), List.take_of_length_le (by simp [us_len, w8])]
theorem hC_block (s : St8) (b : List UInt8) (n : Nat) (h : b.length = 64) : ((hC s b n).drop 8).take 64 = bs b := by
  unfold hC
  rw [List.drop_append_of_le_length (by simp [us_len, w8]), List.drop_of_length_le (by simp [us_len, w8]), List.nil_append, List.take_append_of_le_length (by simp [bs_len, h]), List.take_of_length_le (by simp [bs_len, h])]
theorem hC_size (s : St8) (b : List UInt8) (n : Nat) (h : b.length = 64) : (hC s b n)[72]? = some (.int .u64 (n : Int)) := by
  unfold hC
  rw [List.getElem?_append_right (by simp [us_len, w8]), List.getElem?_append_right (by simp [us_len, bs_len, w8, h])]
  simp [us_len, bs_len, w8, h]
theorem hC_set (s : St8) (b : List UInt8) (n m : Nat) (h : b.length = 64) : (hC s b n).set 72 (.int .u64 (m : Int)) = hC s b m := by
  unfold hC
  rw [List.set_append_right _ _ (by simp [us_len, w8]), List.set_append_right _ _ (by simp [us_len, bs_len, w8, h])]
  simp [us_len, bs_len, w8, h]
/-- bytes laid over a part of a block -/
def over (b : List UInt8) (p : Nat) (x : List UInt8) : List UInt8 := b.take p ++ (x ++ b.drop (p + x.length))
theorem over_len (b : List UInt8) (p : Nat) (x : List UInt8) (h : p + x.length ≤ b.length) : (over b p x).length = b.length := by simp [over]; omega
theorem hC_over (s : St8) (b : List UInt8) (n p : Nat) (x : List UInt8) (h : b.length = 64) (hp : p + x.length ≤ 64) :
    (hC s b n).take (8 + p) ++ bs x ++ (hC s b n).drop (8 + p + x.length) = hC s (over b p x) n := by
  unfold hC
  have l8 : (us (w8 s)).length = 8 := by simp [us_len, w8]
  rw [List.take_append, List.take_of_length_le (by omega), l8, show 8 + p - 8 = p by omega, List.take_append_of_le_length (by simp [bs_len]; omega)]
  rw [List.drop_append, List.drop_of_length_le (by omega), l8, show 8 + p + x.length - 8 = p + x.length by omega, List.drop_append_of_le_length (by simp [bs_len]; omega)]
  simp [over, bs, List.map_take, List.map_drop]

/-- what is written over a part's cells -/
theorem run_copy_string_min {P : Program} (w : World) (dT sT ty elem : TypeId) (g o dLen dCap : Nat) (s : ByteArray) (cur : Array Value) (t : TypeId) (n : Nat) (hn : Nat.min s.size dLen = n)
    (hu : P.underlying dT = some (.slice elem)) (hs : (P.info? elem).map (·.size) = some 1) (hg : w.heap[g]? = some (.cells cur t (0, 0))) (hfit : o + n ≤ cur.size) :
    (Builtin.copy_ #[dT, sT] ty #[.slice (some ⟨g, o, none⟩) dLen dCap, .string s]).run P w =
      .ok (goInt n) (w.setRow g (cur.toList.take o ++ Lib.byteCells (s.data.toList.take n) ++ cur.toList.drop (o + n)).toArray) := by
  have hns : n ≤ s.data.toList.length := by rw [← hn, ← Lib.size_eq]; exact Nat.min_le_left _ _
  have hlen : (Lib.byteCells (s.data.toList.take n)).length = n := by rw [Lib.byteCells_length, List.length_take]; omega
  have hst := run_storeCells_at P g o t (Lib.byteCells (s.data.toList.take n)) 0 cur w hg (by rw [hlen]; simpa using hfit) (Lib.byteCells_one _)
  have htk : List.take n (List.map (fun b : UInt8 => Value.int IntKind.u8 (b.toNat : Int)) s.data.toList) = Lib.byteCells (s.data.toList.take n) := by
    rw [← List.map_take]; rfl
  rw [hlen] at hst
  simp only [Nat.add_zero] at hst
  cases hq : P.info? elem with
  | none => simp [hq] at hs
  | some i =>
    simp [Builtin.copy_, run_underlying hu, Builtin.lenOf, Builtin.firstCells, sizeOf, typeInfo, hq, hn]
    rw [htk, hst]
    simp [Result.andThen]

/-- a hash lies in block g, that took these bytes in; its state is that of their whole blocks -/
structure HashAt (w : World) (g : Nat) (l : List UInt8) (s : St8) (b : List UInt8) : Prop where
  row : w.heap[g]? = some (.cells (hC s b l.length).toArray 154 (0, 0))
  len : b.length = 64
  rest : b.take (l.length % 64) = l.drop (64 * (l.length / 64))
  lt : Lt8 s
  is : l ≠ [] → s = st l
  fit : l.length < 9223372036854775808

theorem Only.setRow {g : Nat} {a w : World} (h : Only g a w) (c : Array Value) : Only g a (w.setRow g c) :=
  h.trans ⟨rfl, rfl, rfl, by simp, fun k _ hg => setRow_other _ _ _ _ hg⟩
theorem Only.drew1 {g : Nat} {a w : World} (h : Only g a w) : Only g a w.drew := h.trans ⟨rfl, rfl, rfl, Nat.le_refl _, fun _ _ _ => rfl⟩

/-- so many cells from a place on -/
def cellsAt (w : World) (g o : Nat) : Nat → Option (List Value)
  | 0 => some []
  | n + 1 => match w.cell? ⟨g, o, none⟩ with
    | none => none
    | some v => (cellsAt w g (o + 1) n).map (v :: ·)
theorem cellsAt_range {w : World} {g : Nat} : ∀ (n o : Nat) (cs : List Value), cellsAt w g o n = some cs → w.rangeAt g o cs ∧ cs.length = n
  | 0, o, cs, h => by simp [cellsAt] at h; subst h; exact ⟨fun j v hv => by simp at hv, rfl⟩
  | n + 1, o, cs, h => by
    unfold cellsAt at h
    cases hc : w.cell? ⟨g, o, none⟩ with
    | none => simp [hc] at h
    | some v =>
      rw [hc] at h
      cases hr : cellsAt w g (o + 1) n with
      | none => simp [hr] at h
      | some r =>
        simp [hr] at h
        subst h
        obtain ⟨h1, h2⟩ := cellsAt_range n (o + 1) r hr
        refine ⟨fun j u hu => ?_, by simp [h2]⟩
        cases j with
        | zero => simp at hu; subst hu; exact hc
        | succ j => simp at hu; have := h1 j u hu; rw [show o + 1 + j = o + (j + 1) by omega] at this; exact this
theorem range_cellsAt {w : World} {g : Nat} : ∀ (n o : Nat) (cs : List Value), w.rangeAt g o cs → cs.length = n → cellsAt w g o n = some cs
  | 0, o, cs, h, hl => by have : cs = [] := List.length_eq_zero_iff.1 hl; subst this; rfl
  | n + 1, o, cs, h, hl => by
    cases cs with
    | nil => simp at hl
    | cons v r =>
      have h0 := h 0 v rfl
      simp at h0
      unfold cellsAt
      rw [h0]
      have := range_cellsAt n (o + 1) r (fun j u hu => by have := h (j + 1) u (by simpa using hu); rw [show o + (j + 1) = o + 1 + j by omega] at this; exact this) (by simpa using hl)
      simp [this]
/-- an array at a pointer: is it there? which cells? -/
def ldOk (w : World) (n : Nat) : Value → Bool
  | .pointer (some ⟨g, o, none⟩) => (cellsAt w g o n).isSome
  | _ => false
def ldCells (w : World) (n : Nat) : Value → Array Value
  | .pointer (some ⟨g, o, none⟩) => ((cellsAt w g o n).getD []).toArray
  | _ => #[]
theorem ld_run (ty : TypeId) (n : Nat) (d : TypeDesc) (hu : Tryz.prog.underlying ty = some d) (hd : d.isRow = true) (hi : (Tryz.prog.info? ty).map (·.size) = some n) (v : Value) (w : World) (h : ldOk w n v = true) :
    (Instr.loadAt ty v).run Tryz.prog w = .ok (.agg (ldCells w n v)) w := by
  unfold ldOk at h
  split at h
  · next g o =>
    cases hc : cellsAt w g o n with
    | none => simp [hc] at h
    | some cs =>
      obtain ⟨h1, h2⟩ := cellsAt_range n o cs hc
      have := run_loadAt_mid (P := Tryz.prog) w g o ty cs d h1 hu hd (by rw [h2]; exact hi)
      rw [this]; simp [ldCells, hc]
  · simp at h
theorem ld50 (ρ : Operand → Value) (dst : Option Tmp) (x : Operand) (ty : TypeId) (pos : String) (after : Array Edge) (guard : Option (Nat × Bool)) (w : World) (h : ldOk w 8 (ρ x) = true) :
    (execOp ρ { dst := dst, op := .load 151 x, type := ty, pos := pos, after := after, guard := guard }).run Tryz.prog w = .ok (.value (.agg (ldCells w 8 (ρ x)))) w := by
  unfold execOp; simp only [Sem.run_bind, ld_run _ 8 _ Tryz.underlying151 rfl infoBlk (ρ x) w h, Result.andThen_ok, Sem.run_pure]
theorem ld51 (ρ : Operand → Value) (dst : Option Tmp) (x : Operand) (ty : TypeId) (pos : String) (after : Array Edge) (guard : Option (Nat × Bool)) (w : World) (h : ldOk w 64 (ρ x) = true) :
    (execOp ρ { dst := dst, op := .load 152 x, type := ty, pos := pos, after := after, guard := guard }).run Tryz.prog w = .ok (.value (.agg (ldCells w 64 (ρ x)))) w := by
  unfold execOp; simp only [Sem.run_bind, ld_run _ 64 _ Tryz.underlying152 rfl info51 (ρ x) w h, Result.andThen_ok, Sem.run_pure]

/-- an array is stored at a pointer: can it be? what becomes of the world? -/
def stOk (w : World) (n : Nat) : Value → Value → Bool
  | .pointer (some ⟨g, o, none⟩), .agg c => (match w.heap[g]? with | some (.cells cur _ (0, 0)) => decide (o + n ≤ cur.size) | _ => false) && c.size == n && c.all (·.oneCell')
  | _, _ => false
def stPut (w : World) : Value → Value → World
  | .pointer (some ⟨g, o, none⟩), .agg c => (match w.heap[g]? with | some (.cells cur _ (0, 0)) => w.setRow g (cur.toList.take o ++ c.toList ++ cur.toList.drop (o + c.size)).toArray | _ => w)
  | _, _ => w
theorem run_storeVar_at (w : World) (g o : Nat) (t ty : TypeId) (cur cells : Array Value) (hg : w.heap[g]? = some (.cells cur t (0, 0))) (hi : (Tryz.prog.info? ty).map (·.size) = some cells.size)
    (hf : o + cells.size ≤ cur.size) (h1 : cells.all (·.oneCell') = true) :
    (storeVar ty ⟨g, o, none⟩ (.agg cells)).run Tryz.prog w = .ok () (w.setRow g (cur.toList.take o ++ cells.toList ++ cur.toList.drop (o + cells.size)).toArray) := by
  have := run_storeCells_at Tryz.prog g o t cells.toList 0 cur w hg (by simpa using hf) (fun v hv => (Array.all_eq_true_iff_forall_mem.1 h1) v (by simpa using hv))
  cases hq : Tryz.prog.info? ty with
  | none => simp [hq] at hi
  | some i =>
    have hs : cells.size = i.size := by simp [hq] at hi; omega
    simp only [Nat.add_zero, Array.length_toList] at this
    simp [storeVar, sizeOf, typeInfo, hq, Value.cells, hs] at this ⊢
    exact this
theorem st_run (ty : TypeId) (n : Nat) (hi : (Tryz.prog.info? ty).map (·.size) = some n) (v u : Value) (w : World) (h : stOk w n v u = true) : (Instr.storeAt ty v u).run Tryz.prog w = .ok () (stPut w v u) := by
  unfold stOk at h
  split at h
  · next g o c =>
    simp only [Bool.and_eq_true, beq_iff_eq] at h
    obtain ⟨⟨h0, h1⟩, h2⟩ := h
    split at h0
    · next cur t hg =>
      have := run_storeVar_at w g o t ty cur c hg (by rw [h1]; exact hi) (by have := of_decide_eq_true h0; omega) h2
      simp only [Instr.storeAt, Instr.sureAddr, Sem.run_bind, Sem.run_pure, Result.andThen_ok, this, stPut, hg]
    · simp at h0
  · simp at h
theorem st50 (ρ : Operand → Value) (dst : Option Tmp) (x y : Operand) (ty : TypeId) (pos : String) (after : Array Edge) (guard : Option (Nat × Bool)) (w : World) (h : stOk w 8 (ρ x) (ρ y) = true) :
    (execOp ρ { dst := dst, op := .store 151 x y, type := ty, pos := pos, after := after, guard := guard }).run Tryz.prog w = .ok .skip (stPut w (ρ x) (ρ y)) := by
  unfold execOp; simp only [Sem.run_bind, st_run _ 8 infoBlk (ρ x) (ρ y) w h, Result.andThen_ok, Sem.run_pure]
end Go.Proofs.YtedogofeibdjiaaGreat
