/- A row of bytes that the call made, by its cells: what is appended to it lies behind it, in the same block or in a new one. -/
import Derived.Test.YtnohkhgoejjfhaaDoorBase
import Derived.Deep.Upon
import Derived.Deep.MidRow
namespace Go.Proofs.YtnohkhgoejjfhaaDoor
open Go.RowKit
set_option linter.unusedVariables false

/-- a slice of the bytes L in a block of the call's own, all of whose cells may be written -/
def BRow (w : World) (base : Nat) (v : Value) (L : List UInt8) : Prop :=
  ∃ g cap, v = .slice (some ⟨g, 0, none⟩) L.length cap ∧ base ≤ g ∧ g < w.heap.size ∧ L.length ≤ cap ∧
    (∀ j (h : j < L.length), w.cell? ⟨g, j, none⟩ = some (.int .u8 (L[j]).toNat)) ∧ ∀ j, j < cap → (w.cell? ⟨g, j, none⟩).isSome = true ∧ w.frozen? ⟨g, j, none⟩ = false

theorem bs_get (M : List UInt8) (j : Nat) (h : j < M.length) : (bs M)[j]? = some (.int .u8 (M[j]).toNat) := by simp [bs, h]
theorem setCells_size (b : Nat) : ∀ (vs : List Value) (o : Nat) (w : World), (w.setCells b o vs).heap.size = w.heap.size
  | [], _, _ => rfl
  | v :: r, o, w => by rw [World.setCells, setCells_size b r]; simp
theorem setCells_tape (b : Nat) : ∀ (vs : List Value) (o : Nat) (w : World), (w.setCells b o vs).tape = w.tape
  | [], _, _ => rfl
  | v :: r, o, w => by rw [World.setCells, setCells_tape b r]; rfl

theorem below_setCells {base g o : Nat} {vs : List Value} {w : World} (hg : base ≤ g) (hb : base ≤ w.heap.size) : Below base w (w.setCells g o vs) :=
  ⟨World.os_setCells w g o vs, setCells_tape g vs o w, World.output_setCells w g o vs, by rw [setCells_size]; exact Nat.le_refl _, fun k hk => World.heap_setCells_other w g o vs (by omega) (by omega)⟩

theorem BRow.keeps {w w' : World} {base : Nat} {v : Value} {L : List UInt8} (h : BRow w base v L) (hB : Below w.heap.size w w') : BRow w' base v L := by
  obtain ⟨g, cap, hv, h1, h2, h3, h4, h5⟩ := h
  exact ⟨g, cap, hv, h1, Nat.lt_of_lt_of_le h2 hB.size, h3, fun j hj => (hB.cell (p := ⟨g, j, none⟩) h2).trans (h4 j hj),
    fun j hj => ⟨by rw [hB.cell (p := ⟨g, j, none⟩) h2]; exact (h5 j hj).1, (hB.frozen (p := ⟨g, j, none⟩) h2).trans (h5 j hj).2⟩⟩

theorem BRow.text {w : World} {base : Nat} {v : Value} {L : List UInt8} (h : BRow w base v L) : (convert 66 9 v).run Tryd.prog w = .ok (.string ⟨L.toArray⟩) w := by
  obtain ⟨g, cap, rfl, h1, h2, h3, h4, h5⟩ := h
  refine run_convert_bytes_back w 66 9 5 _ cap L Tryd.underlying66 Tryd.underlying5 Tryd.underlying9 ?_
  intro j hj
  rw [Addr.add_lit, Nat.zero_add]
  exact h4 j hj

/-- '[]byte(s)' -/
theorem brow_made (w : World) (s : ByteArray) : ∃ (v : Value) (w2 : World), (convert 9 66 (.string s)).run Tryd.prog w = .ok v w2 ∧ BRow w2 w.heap.size v s.data.toList ∧ Below w.heap.size w w2 := by
  have hsz : s.data.toList.length = s.size := by simp
  refine ⟨_, _, run_bytes_of_string w 9 66 5 s Tryd.underlying9 Tryd.underlying66 Tryd.underlying5, ?_, ((Below.refl _ w).drew).alloc (Nat.le_refl _) _⟩
  have hc := grownCap_ge w s.size 0 5
  generalize grownCap w s.size 0 5 = cap at hc
  have hbs : (bytesRow s cap).size = cap := by simp [bytesRow]; omega
  have hh : (w.drew.alloc (.cells (bytesRow s cap) 5 ((bytesRow s cap).size, (bytesRow s cap).size + 1))).heap[w.heap.size]? = some (.cells (bytesRow s cap) 5 ((bytesRow s cap).size, (bytesRow s cap).size + 1)) := by
    show (w.heap.push _)[w.heap.size]? = _
    simp
  refine ⟨w.heap.size, cap, by rw [hsz], Nat.le_refl _, by show _ < (w.heap.push _).size; simp, by rw [hsz]; exact hc, fun j hj => ?_, fun j hj => ⟨?_, ?_⟩⟩
  · rw [cell_of_row _ _ j _ _ _ hh, bytesRow_at s cap j (by simpa using hj)]
    simp
  · rw [cell_of_row _ _ j _ _ _ hh]; simp [hbs, hj]
  · unfold World.frozen?
    rw [hh]; simp; omega

/-- 'append(b, s...)' -/
theorem brow_append (w : World) (base : Nat) (v : Value) (L : List UInt8) (s : ByteArray) (ty : TypeId) (h : BRow w base v L) (hb : base ≤ w.heap.size) (hl : L.length + s.size ≤ 140737488355328) :
    ∃ v' w', (Builtin.append_ #[66, 9] ty #[v, .string s]).run Tryd.prog w = .ok v' w' ∧ BRow w' base v' (L ++ s.data.toList) ∧ Below base w w' := by
  obtain ⟨i0, hi, hz0, hz1, hz2⟩ := info_parts info8
  obtain ⟨g, cap, rfl, h1, h2, h3, h4, h5⟩ := h
  have hsz : s.data.toList.length = s.size := by simp
  have hbl : (Go.byteCells s).length = s.size := by rw [Go.byteCells, List.length_map, hsz]
  have hsrc : Src Tryd.prog i0.size 9 (.string s) s.size (Go.byteCells s) w := by rw [hz1]; exact Src.ofString w Tryd.underlying9 s
  by_cases hroom : L.length + s.size ≤ cap
  · have hr := run_append_room_src (P := Tryd.prog) w 66 9 ty 5 i0 Tryd.underlying66 hi g 0 L.length cap (.string s) s.size (Go.byteCells s) hsrc hroom
      (fun j hj => by rw [hz1, Nat.mul_one, Nat.zero_add]; exact (h5 _ (by omega)).1) (fun j hj => by rw [hz1, Nat.mul_one, Nat.zero_add]; exact (h5 _ (by omega)).2)
    rw [hz1, Nat.mul_one, Nat.zero_add] at hr
    refine ⟨_, _, hr, ⟨g, cap, by rw [List.length_append, hsz], h1, by rw [setCells_size]; exact h2, by rw [List.length_append, hsz]; exact hroom, fun j hj => ?_, fun j hj => ⟨?_, ?_⟩⟩, below_setCells h1 hb⟩
    · by_cases hjl : j < L.length
      · rw [World.cell?_setCells_out g _ _ w ⟨g, j, none⟩ (fun _ _ => .inl hjl), h4 j hjl, List.getElem_append_left hjl]
      · rw [List.length_append, hsz] at hj
        have hin := World.cell?_setCells_in g (Go.byteCells s) L.length w (fun i hi => (h5 _ (by omega)).1) (j - L.length) (by omega)
        rw [show L.length + (j - L.length) = j by omega] at hin
        rw [hin, List.getElem_append_right (by omega)]
        simp [Go.byteCells]
    · exact World.isSome_setCells g _ _ w _ (h5 j hj).1
    · rw [World.frozen?_setCells]; exact (h5 j hj).2
  · have hold : (Builtin.firstCells i0.size L.length (.slice (some ⟨g, 0, none⟩) L.length cap)).run Tryd.prog w.drew = .ok (bs L).toArray w.drew := by
      rw [hz1]
      refine run_firstCells_some w.drew 1 L.length ⟨g, 0, none⟩ L.length cap (bs L) (by rw [bs_len, Nat.mul_one]) (fun j u hu => ?_)
      have hj : j < L.length := by have := (List.getElem?_eq_some_iff.1 hu).1; rwa [bs_len] at this
      have e : (bs L)[j]? = some (.int .u8 (L[j]).toNat) := by simp [bs, hj]
      rw [e] at hu
      rw [Addr.add_lit, Nat.zero_add]
      show w.cell? _ = _
      rw [h4 j hj]; exact hu
    have hr := run_append_grow_src (P := Tryd.prog) w 66 9 ty 5 i0 (.int .u8 0) Tryd.underlying66 hi hz0 (some ⟨g, 0, none⟩) L.length cap (bs L) hold (.string s) s.size (Go.byteCells s) hsrc (by omega) (by omega) (growslice_fits (by omega) (by rw [hz2]; omega))
    have hc := grownCap_ge w (L.length + s.size) cap 5
    generalize grownCap w (L.length + s.size) cap 5 = cap2 at hr hc
    have hzc : (Builtin.zeroCells (Value.int .u8 0).cells (cap2 - (L.length + s.size))).size = cap2 - (L.length + s.size) := by simp [Builtin.zeroCells, Value.cells]
    generalize Builtin.zeroCells (Value.int .u8 0).cells (cap2 - (L.length + s.size)) = Z at hr hzc
    have hcs : ((bs L ++ Go.byteCells s).toArray ++ Z).size = cap2 := by simp [bs_len, hbl, hzc]; omega
    have hh : (w.drew.alloc (.cells ((bs L ++ Go.byteCells s).toArray ++ Z) 5)).heap[w.heap.size]? = some (.cells ((bs L ++ Go.byteCells s).toArray ++ Z) 5) := by
      show (w.heap.push _)[w.heap.size]? = _
      simp
    refine ⟨_, _, hr, ⟨w.heap.size, cap2, by rw [List.length_append, hsz], hb, by show _ < (w.heap.push _).size; simp, by rw [List.length_append, hsz]; exact hc, fun j hj => ?_, fun j hj => ⟨?_, ?_⟩⟩, ((Below.refl _ w).drew).alloc hb _⟩
    · rw [cell_of_row _ _ j _ _ _ hh]
      have hj0 := hj
      rw [List.length_append, hsz] at hj
      have e : bs L ++ Go.byteCells s = bs (L ++ s.data.toList) := by rw [bs_append]; rfl
      rw [e, Array.getElem?_append_left (by simp [bs_len, hsz]; omega), List.getElem?_toArray]
      exact bs_get _ j hj0
    · rw [cell_of_row _ _ j _ _ _ hh]; simp only [Array.getElem?_eq_getElem (by rw [hcs]; exact hj), Option.isSome_some]
    · unfold World.frozen?
      rw [hh]; simp

/-- the same, at the operation -/
theorem wpList_brow (w : World) {ops : Array Oper} {rest : List Oper} {o : Oper} {a : Act} {Q : Exit → Act → World → Prop} (hgd : o.guard = none) (sl x : Operand)
    (ho : o.op = .call { callee := .builtin .append, args := #[sl, x], argTypes := #[66, 9] }) (base : Nat) (v : Value) (L : List UInt8) (s : ByteArray) (hs : a.eval sl = v) (hx : a.eval x = .string s)
    (h0 : BRow w base v L) (hb : base ≤ w.heap.size) (hl : L.length + s.size ≤ 140737488355328)
    (h : ∀ v' w', BRow w' base v' (L ++ s.data.toList) → Below base w w' → wpList Tryd.prog ops Q rest (a.put o.dst v') w') : wpList Tryd.prog ops Q (o :: rest) a w := by
  refine wpList_plain hgd fun K hK => ?_
  obtain ⟨v', w', hr, h2, h3⟩ := brow_append w base v L s o.type h0 hb hl
  unfold Oper.wp execOp
  simp only [ho, resolve, invoke, builtin, Sem.run_bind, Sem.run_pure, Result.andThen_ok, List.map_toArray, List.map_cons, List.map_nil, hs, hx, hr]
  exact hK _ _ (h v' w' h2 h3)
end Go.Proofs.YtnohkhgoejjfhaaDoor
