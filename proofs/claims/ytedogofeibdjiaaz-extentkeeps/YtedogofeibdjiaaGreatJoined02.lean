/- Joined: A row of bytes that the call made, by its cells: what is appended to it lies behind it, in the same block or in a new one. Bytes in a slice of the call's own (or nil), by cells: what is appended to it, from whatever source, lies behind it. The walk of the reference's Unhex. -/
import Derived.Test.YtedogofeibdjiaaGreatJoined01
import Derived.Deep.Upon
import Derived.Deep.MidRow
import Derived.Test.YtedogofeibdjiaaGreatJoined00
namespace Go.Proofs.YtedogofeibdjiaaGreat
open Go.RowKit
set_option linter.unusedVariables false

/-- a slice of the bytes L in a block of the call's own, all of whose cells may be written -/
def BRow (w : World) (base : Nat) (v : Value) (L : List UInt8) : Prop :=
  ∃ g cap, v = .slice (some ⟨g, 0, none⟩) L.length cap ∧ base ≤ g ∧ g < w.heap.size ∧ L.length ≤ cap ∧
    (∀ j (h : j < L.length), w.cell? ⟨g, j, none⟩ = some (.int .u8 (L[j]).toNat)) ∧ ∀ j, j < cap → (w.cell? ⟨g, j, none⟩).isSome = true ∧ w.frozen? ⟨g, j, none⟩ = false

theorem bs_get (M : List UInt8) (j : Nat) (h : j < M.length) : (bs M)[j]? = some (.int .u8 (M[j]).toNat) := by simp [bs, h]
theorem setCells_size (b : Nat) : ∀ (vs : List Value) (o : Nat) (w : World), (w.setCells b o vs).heap.size = w.heap.size
  | [], _, _ => rfl
  | v :: r, o, w => by rw [World.setCells, setCells_size b r]; simp
theorem setCells_tape (b : Nat) : ∀ (vs : List Value) (o : Nat) (w : World), (w.setCells b o vs).tape = w.tape
  | [], _, _ => rfl
  | v :: r, o, w => by rw [World.setCells, setCells_tape b r]; rfl

theorem below_setCells {base g o : Nat} {vs : List Value} {w : World} (hg : base ≤ g) (hb : base ≤ w.heap.size) : Below base w (w.setCells g o vs) :=
  ⟨World.os_setCells w g o vs, setCells_tape g vs o w, World.output_setCells w g o vs, by rw [setCells_size]; exact Nat.le_refl _, fun k hk => World.heap_setCells_other w g o vs (by omega) (by omega)⟩

theorem BRow.keeps {w w' : World} {base : Nat} {v : Value} {L : List UInt8} (h : BRow w base v L) (hB : Below w.heap.size w w') : BRow w' base v L := by
  obtain ⟨g, cap, hv, h1, h2, h3, h4, h5⟩ := h
  exact ⟨g, cap, hv, h1, Nat.lt_of_lt_of_le h2 hB.size, h3, fun j hj => (hB.cell (p := ⟨g, j, none⟩) h2).trans (h4 j hj),
    fun j hj => ⟨by rw [hB.cell (p := ⟨g, j, none⟩) h2]; exact (h5 j hj).1, (hB.frozen (p := ⟨g, j, none⟩) h2).trans (h5 j hj).2⟩⟩

theorem BRow.text {w : World} {base : Nat} {v : Value} {L : List UInt8} (h : BRow w base v L) : (convert 46 9 v).run Tryz.prog w = .ok (.string ⟨L.toArray⟩) w := by
  obtain ⟨g, cap, rfl, h1, h2, h3, h4, h5⟩ := h
  refine run_convert_bytes_back w 46 9 5 _ cap L Tryz.underlying46 Tryz.underlying5 Tryz.underlying9 ?_
  intro j hj
  rw [Addr.add_lit, Nat.zero_add]
  exact h4 j hj

/-- '[]byte(s)' -/
theorem brow_made (w : World) (s : ByteArray) : ∃ (v : Value) (w2 : World), (convert 9 46 (.string s)).run Tryz.prog w = .ok v w2 ∧ BRow w2 w.heap.size v s.data.toList ∧ Below w.heap.size w w2 := by
  have hsz : s.data.toList.length = s.size := by simp
  refine ⟨_, _, run_bytes_of_string w 9 46 5 s Tryz.underlying9 Tryz.underlying46 Tryz.underlying5, ?_, ((Below.refl _ w).drew).alloc (Nat.le_refl _) _⟩
  have hc := grownCap_ge w s.size 0 5
  generalize grownCap w s.size 0 5 = cap at hc
  have hbs : (bytesRow s cap).size = cap := by simp [bytesRow]; omega
  have hh : (w.drew.alloc (.cells (bytesRow s cap) 5 ((bytesRow s cap).size, (bytesRow s cap).size + 1))).heap[w.heap.size]? = some (.cells (bytesRow s cap) 5 ((bytesRow s cap).size, (bytesRow s cap).size + 1)) := by
    show (w.heap.push _)[w.heap.size]? = _
    simp
  refine ⟨w.heap.size, cap, by rw [hsz], Nat.le_refl _, by show _ < (w.heap.push _).size; simp, by rw [hsz]; exact hc, fun j hj => ?_, fun j hj => ⟨?_, ?_⟩⟩
  · rw [cell_of_row _ _ j _ _ _ hh, bytesRow_at s cap j (by simpa using hj)]
    simp
  · rw [cell_of_row _ _ j _ _ _ hh]; simp [hbs, hj]
  · unfold World.frozen?
    rw [hh]; simp; omega

/-- 'append(b, s...)' -/
theorem brow_append (w : World) (base : Nat) (v : Value) (L : List UInt8) (s : ByteArray) (ty : TypeId) (h : BRow w base v L) (hb : base ≤ w.heap.size) (hl : L.length + s.size ≤ 140737488355328) :
    ∃ v' w', (Builtin.append_ #[46, 9] ty #[v, .string s]).run Tryz.prog w = .ok v' w' ∧ BRow w' base v' (L ++ s.data.toList) ∧ Below base w w' := by
  obtain ⟨i0, hi, hz0, hz1, hz2⟩ := info_parts info8
  obtain ⟨g, cap, rfl, h1, h2, h3, h4, h5⟩ := h
  have hsz : s.data.toList.length = s.size := by simp
  have hbl : (Go.byteCells s).length = s.size := by rw [Go.byteCells, List.length_map, hsz]
  have hsrc : Src Tryz.prog i0.size 9 (.string s) s.size (Go.byteCells s) w := by rw [hz1]; exact Src.ofString w Tryz.underlying9 s
  by_cases hroom : L.length + s.size ≤ cap
  · have hr := run_append_room_src (P := Tryz.prog) w 46 9 ty 5 i0 Tryz.underlying46 hi g 0 L.length cap (.string s) s.size (Go.byteCells s) hsrc hroom
      (fun j hj => by rw [hz1, Nat.mul_one, Nat.zero_add]; exact (h5 _ (by omega)).1) (fun j hj => by rw [hz1, Nat.mul_one, Nat.zero_add]; exact (h5 _ (by omega)).2)
    rw [hz1, Nat.mul_one, Nat.zero_add] at hr
    refine ⟨_, _, hr, ⟨g, cap, by rw [List.length_append, hsz], h1, by rw [setCells_size]; exact h2, by rw [List.length_append, hsz]; exact hroom, fun j hj => ?_, fun j hj => ⟨?_, ?_⟩⟩, below_setCells h1 hb⟩
    · by_cases hjl : j < L.length
      · rw [World.cell?_setCells_out g _ _ w ⟨g, j, none⟩ (fun _ _ => .inl hjl), h4 j hjl, List.getElem_append_left hjl]
      · rw [List.length_append, hsz] at hj
        have hin := World.cell?_setCells_in g (Go.byteCells s) L.length w (fun i hi => (h5 _ (by omega)).1) (j - L.length) (by omega)
        rw [show L.length + (j - L.length) = j by omega] at hin
        rw [hin, List.getElem_append_right (by omega)]
        simp [Go.byteCells]
    · exact World.isSome_setCells g _ _ w _ (h5 j hj).1
    · rw [World.frozen?_setCells]; exact (h5 j hj).2
  · have hold : (Builtin.firstCells i0.size L.length (.slice (some ⟨g, 0, none⟩) L.length cap)).run Tryz.prog w.drew = .ok (bs L).toArray w.drew := by
      rw [hz1]
      refine run_firstCells_some w.drew 1 L.length ⟨g, 0, none⟩ L.length cap (bs L) (by rw [bs_len, Nat.mul_one]) (fun j u hu => ?_)
      have hj : j < L.length := by have := (List.getElem?_eq_some_iff.1 hu).1; rwa [bs_len] at this
      have e : (bs L)[j]? = some (.int .u8 (L[j]).toNat) := by simp [bs, hj]
      rw [e] at hu
      rw [Addr.add_lit, Nat.zero_add]
      show w.cell? _ = _
      rw [h4 j hj]; exact hu
    have hr := run_append_grow_src (P := Tryz.prog) w 46 9 ty 5 i0 (.int .u8 0) Tryz.underlying46 hi hz0 (some ⟨g, 0, none⟩) L.length cap (bs L) hold (.string s) s.size (Go.byteCells s) hsrc (by omega) (by omega) (growslice_fits (by omega) (by rw [hz2]; omega))
    have hc := grownCap_ge w (L.length + s.size) cap 5
    generalize grownCap w (L.length + s.size) cap 5 = cap2 at hr hc
    have hzc : (Builtin.zeroCells (Value.int .u8 0).cells (cap2 - (L.length + s.size))).size = cap2 - (L.length + s.size) := by simp [Builtin.zeroCells, Value.cells]
    generalize Builtin.zeroCells (Value.int .u8 0).cells (cap2 - (L.length + s.size)) = Z at hr hzc
    have hcs : ((bs L ++ Go.byteCells s).toArray ++ Z).size = cap2 := by simp [bs_len, hbl, hzc]; omega
    have hh : (w.drew.alloc (.cells ((bs L ++ Go.byteCells s).toArray ++ Z) 5)).heap[w.heap.size]? = some (.cells ((bs L ++ Go.byteCells s).toArray ++ Z) 5) := by
      show (w.heap.push _)[w.heap.size]? = _
      simp
    refine ⟨_, _, hr, ⟨w.heap.size, cap2, by rw [List.length_append, hsz], hb, by show _ < (w.heap.push _).size; simp, by rw [List.length_append, hsz]; exact hc, fun j hj => ?_, fun j hj => ⟨?_, ?_⟩⟩, ((Below.refl _ w).drew).alloc hb _⟩
    · rw [cell_of_row _ _ j _ _ _ hh]
      have hj0 := hj
      rw [List.length_append, hsz] at hj
      have e : bs L ++ Go.byteCells s = bs (L ++ s.data.toList) := by rw [bs_append]; rfl
      rw [e, Array.getElem?_append_left (by simp [bs_len, hsz]; omega), List.getElem?_toArray]
      exact bs_get _ j hj0
    · rw [cell_of_row _ _ j _ _ _ hh]; simp only [Array.getElem?_eq_getElem (by rw [hcs]; exact hj), Option.isSome_some]
    · unfold World.frozen?
      rw [hh]; simp

/-- the same, at the operation -/
theorem wpList_brow (w : World) {ops : Array Oper} {rest : List Oper} {o : Oper} {a : Act} {Q : Exit → Act → World → Prop} (hgd : o.guard = none) (sl x : Operand)
    (ho : o.op = .call { callee := .builtin .append, args := #[sl, x], argTypes := #[46, 9] }) (base : Nat) (v : Value) (L : List UInt8) (s : ByteArray) (hs : a.eval sl = v) (hx : a.eval x = .string s)
    (h0 : BRow w base v L) (hb : base ≤ w.heap.size) (hl : L.length + s.size ≤ 140737488355328)
    (h : ∀ v' w', BRow w' base v' (L ++ s.data.toList) → Below base w w' → wpList Tryz.prog ops Q rest (a.put o.dst v') w') : wpList Tryz.prog ops Q (o :: rest) a w := by
  refine wpList_plain hgd fun K hK => ?_
  obtain ⟨v', w', hr, h2, h3⟩ := brow_append w base v L s o.type h0 hb hl
  unfold Oper.wp execOp
  simp only [ho, resolve, invoke, builtin, Sem.run_bind, Sem.run_pure, Result.andThen_ok, List.map_toArray, List.map_cons, List.map_nil, hs, hx, hr]
  exact hK _ _ (h v' w' h2 h3)
end Go.Proofs.YtedogofeibdjiaaGreat
namespace Go.Proofs.YtedogofeibdjiaaGreat
open Go.RowKit
set_option linter.unusedVariables false

/-- a slice of the bytes L of the call's own; nil, where nothing was laid -/
def BSl (w : World) (base : Nat) (v : Value) (L : List UInt8) : Prop := (v = .slice none 0 0 ∧ L = []) ∨ BRow w base v L
theorem bs_cell1 (l : List UInt8) : ∀ v ∈ bs l, v.oneCell' = true := by
  intro v hv; simp [bs] at hv; obtain ⟨n, _, rfl⟩ := hv; rfl
theorem BSl.nil (w : World) (base : Nat) : BSl w base (.slice none 0 0) [] := .inl ⟨rfl, rfl⟩
theorem BSl.keeps {w w' : World} {base : Nat} {v : Value} {L : List UInt8} (h : BSl w base v L) (hB : Below w.heap.size w w') : BSl w' base v L := h.imp id (fun h => h.keeps hB)
theorem BSl.text {w : World} {base : Nat} {v : Value} {L : List UInt8} (h : BSl w base v L) : (convert 46 9 v).run Tryz.prog w = .ok (.string ⟨L.toArray⟩) w := by
  rcases h with ⟨rfl, rfl⟩ | h
  · kernel_rfl
  · exact h.text
theorem BSl.size {w : World} {base : Nat} {v : Value} {L : List UInt8} (h : BSl w base v L) : ∃ ad cap, v = .slice ad L.length cap := by
  rcases h with ⟨rfl, rfl⟩ | ⟨g, cap, rfl, _⟩
  · exact ⟨none, 0, rfl⟩
  · exact ⟨_, cap, rfl⟩

/-- 'append(b, x...)', whatever x is -/
theorem bsl_append (w : World) (base : Nat) (v : Value) (L : List UInt8) (tx : TypeId) (x : Value) (M : List UInt8) (ty : TypeId) (h : BSl w base v L) (hb : base ≤ w.heap.size) (hl : L.length + M.length ≤ 140737488355328)
    (hsrc : Src Tryz.prog 1 tx x M.length (bs M) w) (hM : M ≠ []) :
    ∃ v' w', (Builtin.append_ #[46, tx] ty #[v, x]).run Tryz.prog w = .ok v' w' ∧ BSl w' base v' (L ++ M) ∧ Below base w w' := by
  obtain ⟨i0, hi, hz0, hz1, hz2⟩ := info_parts info8
  have hM0 : 0 < M.length := List.length_pos_iff.2 hM
  have hsrc' : Src Tryz.prog i0.size tx x M.length (bs M) w := by rw [hz1]; exact hsrc
  have grow : ∀ (bs0 : Option Addr) (cap : Nat), v = .slice bs0 L.length cap → cap < L.length + M.length → (Builtin.firstCells i0.size L.length (.slice bs0 L.length cap)).run Tryz.prog w.drew = .ok (bs L).toArray w.drew →
      ∃ v' w', (Builtin.append_ #[46, tx] ty #[v, x]).run Tryz.prog w = .ok v' w' ∧ BSl w' base v' (L ++ M) ∧ Below base w w' := by
    intro bs0 cap hv hcap hold
    subst hv
    have hr := run_append_grow_src (P := Tryz.prog) w 46 tx ty 5 i0 (.int .u8 0) Tryz.underlying46 hi hz0 bs0 L.length cap (bs L) hold x M.length (bs M) hsrc' hcap (by omega) (growslice_fits (by omega) (by rw [hz2]; omega))
    have hc := grownCap_ge w (L.length + M.length) cap 5
    generalize grownCap w (L.length + M.length) cap 5 = cap2 at hr hc
    have hzc : (Builtin.zeroCells (Value.int .u8 0).cells (cap2 - (L.length + M.length))).size = cap2 - (L.length + M.length) := by simp [Builtin.zeroCells, Value.cells]
    generalize Builtin.zeroCells (Value.int .u8 0).cells (cap2 - (L.length + M.length)) = Z at hr hzc
    have hcs : ((bs L ++ bs M).toArray ++ Z).size = cap2 := by simp [bs_len, hzc]; omega
    have hh : (w.drew.alloc (.cells ((bs L ++ bs M).toArray ++ Z) 5)).heap[w.heap.size]? = some (.cells ((bs L ++ bs M).toArray ++ Z) 5) := by
      show (w.heap.push _)[w.heap.size]? = _
      simp
    refine ⟨_, _, hr, .inr ⟨w.heap.size, cap2, by rw [List.length_append], hb, by show _ < (w.heap.push _).size; simp, by rw [List.length_append]; exact hc, fun j hj => ?_, fun j hj => ⟨?_, ?_⟩⟩, ((Below.refl _ w).drew).alloc hb _⟩
    · rw [cell_of_row _ _ j _ _ _ hh]
      have hj0 := hj
      rw [List.length_append] at hj
      rw [← bs_append, Array.getElem?_append_left (by simp [bs_len]; omega), List.getElem?_toArray]
      exact bs_get _ j hj0
    · rw [cell_of_row _ _ j _ _ _ hh]; simp only [Array.getElem?_eq_getElem (by rw [hcs]; exact hj), Option.isSome_some]
    · unfold World.frozen?
      rw [hh]; simp
  rcases h with ⟨rfl, rfl⟩ | ⟨g, cap, rfl, h1, h2, h3, h4, h5⟩
  · exact grow none 0 rfl (by simpa using hM0) (run_firstCells_none _ _ _ _ _)
  · by_cases hroom : L.length + M.length ≤ cap
    · have hr := run_append_room_src (P := Tryz.prog) w 46 tx ty 5 i0 Tryz.underlying46 hi g 0 L.length cap x M.length (bs M) hsrc' hroom
        (fun j hj => by rw [hz1, Nat.mul_one, Nat.zero_add]; exact (h5 _ (by rw [bs_len] at hj; omega)).1) (fun j hj => by rw [hz1, Nat.mul_one, Nat.zero_add]; exact (h5 _ (by rw [bs_len] at hj; omega)).2)
      rw [hz1, Nat.mul_one, Nat.zero_add] at hr
      refine ⟨_, _, hr, .inr ⟨g, cap, by rw [List.length_append], h1, by rw [setCells_size]; exact h2, by rw [List.length_append]; exact hroom, fun j hj => ?_, fun j hj => ⟨?_, ?_⟩⟩, below_setCells h1 hb⟩
      · by_cases hjl : j < L.length
        · rw [World.cell?_setCells_out g _ _ w ⟨g, j, none⟩ (fun _ _ => .inl hjl), h4 j hjl, List.getElem_append_left hjl]
        · rw [List.length_append] at hj
          have hin := World.cell?_setCells_in g (bs M) L.length w (fun i hi => (h5 _ (by rw [bs_len] at hi; omega)).1) (j - L.length) (by rw [bs_len]; omega)
          rw [show L.length + (j - L.length) = j by omega] at hin
          rw [hin, List.getElem_append_right (by omega)]
          simp [bs]
      · exact World.isSome_setCells g _ _ w _ (h5 j hj).1
      · rw [World.frozen?_setCells]; exact (h5 j hj).2
    · refine grow (some ⟨g, 0, none⟩) cap rfl (by omega) ?_
      rw [hz1]
      refine run_firstCells_some w.drew 1 L.length ⟨g, 0, none⟩ L.length cap (bs L) (by rw [bs_len, Nat.mul_one]) (fun j u hu => ?_)
      have hj : j < L.length := by have := (List.getElem?_eq_some_iff.1 hu).1; rwa [bs_len] at this
      have e : (bs L)[j]? = some (.int .u8 (L[j]).toNat) := by simp [bs, hj]
      rw [e] at hu
      rw [Addr.add_lit, Nat.zero_add]
      show w.cell? _ = _
      rw [h4 j hj]; exact hu

/-- elements that were just laid in a block of their own -/
theorem src_new (w : World) (M : List UInt8) (t : TypeId) : Src Tryz.prog 1 46 (.slice (some ⟨w.heap.size, 0, none⟩) M.length M.length) M.length (bs M) (w.alloc (.cells (bs M).toArray t)) :=
  Src.ofSlice _ Tryz.underlying46 _ _ _ _ (by rw [bs_len, Nat.mul_one]) (fun j u hu => by rw [Addr.add_lit, Nat.zero_add, cell_of_row _ _ _ _ _ _ (heap_alloc_new _ _)]; simpa using hu) (bs_cell1 M)

/-- 'append(b, x, y, ..)' at the operation: the elements lie in a block of their own -/
theorem wpl_bsl {w : World} {ops : Array Oper} {rest : List Oper} {o : Oper} {a : Act} {Q : Exit → Act → World → Prop} (hgd : o.guard = none) (sl x : Operand)
    (ho : o.op = .call { callee := .builtin .append, args := #[sl, x], argTypes := #[46, 46] }) (base : Nat) (v : Value) (L : List UInt8) (w0 : World) (M : List UInt8) (Mc : Array Value) (hMc : Mc = (bs M).toArray) (hw : w = w0.alloc (.cells Mc 5)) (m : Nat) (hm : m = M.length)
    (hs : a.eval sl = v) (hx : a.eval x = .slice (some ⟨w0.heap.size, 0, none⟩) m m)
    (h0 : BSl w0 base v L) (hb : base ≤ w0.heap.size) (hl : L.length + M.length ≤ 140737488355328) (hM : M ≠ [])
    (h : ∀ v' w', BSl w' base v' (L ++ M) → Below base w0 w' → wpList Tryz.prog ops Q rest (a.put o.dst v') w') : wpList Tryz.prog ops Q (o :: rest) a w := by
  subst hMc hw hm
  refine wpList_plain hgd fun K hK => ?_
  have b1 : Below w0.heap.size w0 (w0.alloc (.cells (bs M).toArray 5)) := (Below.refl _ _).alloc (Nat.le_refl _) _
  obtain ⟨v', w', hr, h2, h3⟩ := bsl_append (w0.alloc (.cells (bs M).toArray 5)) base v L 46 _ M o.type (h0.keeps b1) (by simp; omega) hl (src_new w0 M 5) hM
  unfold Oper.wp execOp
  simp only [ho, resolve, invoke, builtin, Sem.run_bind, Sem.run_pure, Result.andThen_ok, List.map_toArray, List.map_cons, List.map_nil, hs, hx, hr]
  exact hK _ _ (h v' w' h2 ((b1.mono hb).trans h3))
/-- the same as one step of a region that draws -/
theorem step_bsl {w : World} {ops : Array Oper} {o : Oper} {a : Act} {K : Act → World → Prop} {Q : Exit → Act → World → Prop} {E : Prop} (hgd : o.guard = none) (sl x : Operand)
    (ho : o.op = .call { callee := .builtin .append, args := #[sl, x], argTypes := #[46, 46] }) (base : Nat) (v : Value) (L : List UInt8) (w0 : World) (M : List UInt8) (Mc : Array Value) (hMc : Mc = (bs M).toArray) (hw : w.heap = (w0.alloc (.cells Mc 5)).heap) (hB : Below base w0 w) (m : Nat) (hm : m = M.length)
    (hs : a.eval sl = v) (hx : a.eval x = .slice (some ⟨w0.heap.size, 0, none⟩) m m)
    (h0 : BSl w0 base v L) (hb : base ≤ w0.heap.size) (hl : L.length + M.length ≤ 140737488355328) (hM : M ≠ [])
    (h : ∀ v' w', BSl w' base v' (L ++ M) → Below base w0 w' → K (a.put o.dst v') w') : if Region.wanted o (yielded ops a.tmps) = true then Oper.wp Tryz.prog o a w K Q else E := by
  have hwn : Region.wanted o (yielded ops a.tmps) = true := by simp [Region.wanted, hgd]
  rw [if_pos hwn]
  subst hMc hm
  have hcell : ∀ p, w.cell? p = (w0.alloc (.cells (bs M).toArray 5)).cell? p := fun p => by simp [World.cell?, hw]
  have hfr : ∀ p, w.frozen? p = (w0.alloc (.cells (bs M).toArray 5)).frozen? p := fun p => by simp [World.frozen?, hw]
  have b1 : Below w0.heap.size w0 (w0.alloc (.cells (bs M).toArray 5)) := (Below.refl _ _).alloc (Nat.le_refl _) _
  have hk : BSl w base v L := by
    rcases h0.keeps b1 with h | ⟨g, cap, hv, c1, c2, c3, c4, c5⟩
    · exact .inl h
    · exact .inr ⟨g, cap, hv, c1, by rw [hw]; exact c2, c3, fun j hj => (hcell _).trans (c4 j hj), fun j hj => ⟨by rw [hcell]; exact (c5 j hj).1, (hfr _).trans (c5 j hj).2⟩⟩
  have hsrc : Src Tryz.prog 1 46 (.slice (some ⟨w0.heap.size, 0, none⟩) M.length M.length) M.length (bs M) w :=
    Src.ofSlice _ Tryz.underlying46 _ _ _ _ (by rw [bs_len, Nat.mul_one]) (fun j u hu => by rw [Addr.add_lit, Nat.zero_add, hcell, cell_of_row _ _ _ _ _ _ (heap_alloc_new _ _)]; simpa using hu) (bs_cell1 M)
  obtain ⟨v', w', hr, h2, h3⟩ := bsl_append w base v L 46 _ M o.type hk (by rw [hw]; simp; omega) hl hsrc hM
  unfold Oper.wp execOp
  simp only [ho, resolve, invoke, builtin, Sem.run_bind, Sem.run_pure, Result.andThen_ok, List.map_toArray, List.map_cons, List.map_nil, hs, hx, hr, Oper.upon]
  exact h v' w' h2 (hB.trans h3)
end Go.Proofs.YtedogofeibdjiaaGreat
namespace Go.Proofs.YtedogofeibdjiaaGreat
open Go.RowKit
set_option linter.unusedVariables false

/-- what is known at the sign k: nothing is half read, or one digit is -/
def US (s : List UInt8) (x : List UInt8) (er : Nat) (k : Nat) (n : Nat) (L : List UInt8) : Prop :=
  (k % 2 = 0 ∧ unh (s.drop k) L = (x, er)) ∨ (k % 2 = 1 ∧ ∃ a : UInt8, halfN a.toNat = ((n % 16 : Nat) : Int) ∧ unh (a :: s.drop k) L = (x, er))
theorem US.bad {s x : List UInt8} {er k n : Nat} {L : List UInt8} (h : US s x er k n L) (hs : s.length % 2 = 0) (hk : k < s.length) (hd : halfN s[k].toNat < 0) : x = [] ∧ er = 3 := by
  rcases h with ⟨h1, h2⟩ | ⟨h1, a, h3, h2⟩
  · rw [List.drop_eq_getElem_cons hk, List.drop_eq_getElem_cons (by omega), unh, if_pos (Or.inl hd)] at h2
    cases h2; exact ⟨rfl, rfl⟩
  · rw [List.drop_eq_getElem_cons hk, unh, if_pos (Or.inr hd)] at h2
    cases h2; exact ⟨rfl, rfl⟩
theorem US.even {s x : List UInt8} {er k n d : Nat} {L : List UInt8} (h : US s x er k n L) (hk : k < s.length) (hd : halfN s[k].toNat = (d : Int)) (h0 : k % 2 = 0) : US s x er (k + 1) (n % 16 * 16 + d) L := by
  have hl := half_lt s[k].toNat
  rcases h with ⟨h1, h2⟩ | ⟨h1, _⟩
  · rw [List.drop_eq_getElem_cons hk] at h2
    exact .inr ⟨by omega, s[k], by rw [hd]; omega, h2⟩
  · omega
theorem US.odd {s x : List UInt8} {er k n d : Nat} {L : List UInt8} (h : US s x er k n L) (hk : k < s.length) (hd : halfN s[k].toNat = (d : Int)) (h0 : k % 2 = 1) : US s x er (k + 1) (n % 16 * 16 + d) (L ++ [UInt8.ofNat (n % 16 * 16 + d)]) := by
  rcases h with ⟨h1, _⟩ | ⟨h1, a, h3, h2⟩
  · omega
  · rw [List.drop_eq_getElem_cons hk, unh, hd, h3, if_neg (by omega)] at h2
    exact .inl ⟨by omega, by rw [← h2]; rfl⟩

set_option maxRecDepth 100000 in
set_option maxHeartbeats 1000000 in
theorem runhex_any (s : ByteArray) (w : World) (hs : s.size ≤ 140737488355328) (x : List UInt8) (er : Nat) (hx : unh s.data.toList [] = (x, er)) :
    Calls Tryz.prog 96 #[.string s] w fun e w' => e = .returned (.tuple #[.string ⟨x.toArray⟩, .int .i64 er]) ∧ Below w.heap.size w w' := by
  by_cases hpar : s.size % 2 = 1
  · have h := unh_odd _ s.data.toList [] (Nat.le_refl _) (by simpa using hpar)
    rw [h] at hx
    cases hx
    have hq : ¬ ((s.size : Int) % 2 = 0) := by omega
    clear h
    go_enter Tryz.func96, Tryz.ntmps96
    go_wp2
    go_ret2
    exact ⟨rfl, Below.refl _ _⟩
  · have hq : (s.size : Int) % 2 = 0 := by omega
    have HP : Hid (s.data.toList.length % 2 = 0) := by show _ = _; simp; omega
    have HU : Hid (US s.data.toList x er 0 0 []) := .inl ⟨rfl, hx⟩
    have HB0 : Hid (BSl w w.heap.size (.slice none 0 0) []) := BSl.nil _ _
    have HE0 : Hid (Below w.heap.size w w) := Below.refl _ _
    clear hpar hx
    go_enter Tryz.func96, Tryz.ntmps96
    go_wp2
    go_loopw [4, 5, 6] (fun v n i wr => ∃ (k m : Nat) (L : List UInt8), k ≤ s.size ∧ m < 256 ∧ L.length ≤ k ∧ n = .int .i64 m ∧ i = .int .i64 k ∧ Hid (BSl wr w.heap.size v L) ∧ Hid (Below w.heap.size w wr) ∧ Hid (US s.data.toList x er k m L)) (fun _ _ i _ => s.size - (intOf i).toNat)
    case atStart => exact ⟨0, 0, [], by omega, by omega, by simp, rfl, rfl, HB0, HE0, HU⟩
    case round =>
      clear HB0 HE0 HU hq
      obtain ⟨k, m, L, hk, hm, hL, rfl, rfl, HB, HE, HU⟩ := hrel
      by_cases hlt : k < s.size
      · have hk0 : (0 : Int) ≤ (k : Int) := by omega
        have hk1 : (k : Int) < (s.size : Int) := by omega
        have hkl : k < s.data.toList.length := by simpa using hlt
        have HC : s.data.toList[k] = s[k] := rfl
        have HBAD : Hid (halfN s[k].toNat < 0 → x = [] ∧ er = 3) := fun h => HU.out.bad HP.out hkl h
        have HEV : Hid (∀ d : Nat, halfN s[k].toNat = (d : Int) → k % 2 = 0 → US s.data.toList x er (k + 1) (m % 16 * 16 + d) L) := fun d hd h0 => HU.out.even hkl hd h0
        have HOD : Hid (∀ d : Nat, halfN s[k].toNat = (d : Int) → k % 2 = 1 → US s.data.toList x er (k + 1) (m % 16 * 16 + d) (L ++ [UInt8.ofNat (m % 16 * 16 + d)])) := fun d hd h0 => HU.out.odd hkl hd h0
        have HSZ : Hid (w.heap.size ≤ wr.heap.size) := HE.out.size
        clear HU HC HP
        generalize hc : s[k] = c at HBAD HEV HOD
        have hcl := UInt8.toNat_lt c
        by_cases h1 : 48 ≤ c.toNat ∧ c.toNat ≤ 57
        · have e : halfN c.toNat = ((c.toNat - 48 : Nat) : Int) := by unfold halfN; rw [if_pos h1]; omega
          have HEV2 := show Hid (k % 2 = 0 → _) from HEV.out _ e
          have HOD2 := show Hid (k % 2 = 1 → _) from HOD.out _ e
          have hn : ((m % 16 * 16 + (c.toNat - 48) : Nat) : Int) = (m : Int) % 16 * 16 + ((c.toNat : Int) - 48) := by omega
          have hn2 : m % 16 * 16 + (c.toNat - 48) < 256 := by omega
          obtain ⟨h2, h3⟩ := h1
          have h4 : (48 : Int) ≤ (c.toNat : Int) := by omega
          have h5 : (c.toNat : Int) ≤ 57 := by omega
          have h6 : ¬ (97 : Int) ≤ (c.toNat : Int) := by omega
          clear HBAD HEV HOD e
          generalize hN : m % 16 * 16 + (c.toNat - 48) = N at hn hn2 HEV2 HOD2
          by_cases h0 : k % 2 = 0
          · have h00 : ¬ ((k : Int) % 2 = 1) := by omega
            have HEV3 := show Hid _ from HEV2.out h0
            clear HEV2 HOD2 hN
            go_wp2
            exact ⟨⟨k + 1, N, L, by omega, hn2, by omega, by rw [hn], by go_num, HB, HE, HEV3⟩, by simp [intOf]; omega⟩
          · have h00 : (k : Int) % 2 = 1 := by omega
            have HOD3 := show Hid _ from HOD2.out (by omega)
            have hz : (UInt8.ofNat N).toNat = N := by simp; omega
            generalize UInt8.ofNat N = z at HOD3 hz
            have HM1 : Hid (#[Value.int .u8 ((m : Int) % 16 * 16 + ((c.toNat : Int) - 48))] = (bs [z]).toArray) := by show _ = #[Value.int .u8 (z.toNat : Int)]; rw [hz, hn]
            have HL1 : Hid (1 = [z].length) := rfl
            have HMN : Hid ([z] ≠ []) := by show _ ≠ _; simp
            have HLL : Hid (L.length + [z].length ≤ 140737488355328) := by show _ ≤ _; simp; omega
            clear HEV2 HOD2 hN hz
            go_wp2_with (at_builtin; refine wpl_bsl rfl _ _ rfl w.heap.size _ L wr [z] _ HM1.out rfl 1 HL1.out rfl rfl HB.out HSZ.out HLL.out HMN.out ?_; intro v1 w3 hb1 hbel1)
            have HB2 : Hid (BSl w3 w.heap.size v1 (L ++ [z])) := hb1
            have HE2 : Hid (Below w.heap.size w w3) := HE.out.trans hbel1
            clear hb1 hbel1 HB HE
            go_wp2
            exact ⟨⟨k + 1, N, L ++ [z], by omega, hn2, by simp; omega, by rw [hn], by go_num, HB2, HE2, HOD3⟩, by simp [intOf]; omega⟩
        · by_cases h2 : 97 ≤ c.toNat ∧ c.toNat ≤ 102
          · have e : halfN c.toNat = ((c.toNat - 87 : Nat) : Int) := by unfold halfN; rw [if_neg h1]; rw [if_pos h2]; omega
            have HEV2 := show Hid (k % 2 = 0 → _) from HEV.out _ e
            have HOD2 := show Hid (k % 2 = 1 → _) from HOD.out _ e
            have hn : ((m % 16 * 16 + (c.toNat - 87) : Nat) : Int) = (m : Int) % 16 * 16 + ((c.toNat : Int) - 87) := by omega
            have hn2 : m % 16 * 16 + (c.toNat - 87) < 256 := by omega
            obtain ⟨h3, h8⟩ := h2
            have h4 : (48 : Int) ≤ (c.toNat : Int) := by omega
            have h5 : ¬ (c.toNat : Int) ≤ 57 := by omega
            have h6 : (97 : Int) ≤ (c.toNat : Int) := by omega
            have h7 : (c.toNat : Int) ≤ 102 := by omega
            clear h1
            clear HBAD HEV HOD e
            generalize hN : m % 16 * 16 + (c.toNat - 87) = N at hn hn2 HEV2 HOD2
            by_cases h0 : k % 2 = 0
            · have h00 : ¬ ((k : Int) % 2 = 1) := by omega
              have HEV3 := show Hid _ from HEV2.out h0
              clear HEV2 HOD2 hN
              go_wp2
              exact ⟨⟨k + 1, N, L, by omega, hn2, by omega, by rw [hn], by go_num, HB, HE, HEV3⟩, by simp [intOf]; omega⟩
            · have h00 : (k : Int) % 2 = 1 := by omega
              have HOD3 := show Hid _ from HOD2.out (by omega)
              have hz : (UInt8.ofNat N).toNat = N := by simp; omega
              generalize UInt8.ofNat N = z at HOD3 hz
              have HM1 : Hid (#[Value.int .u8 ((m : Int) % 16 * 16 + ((c.toNat : Int) - 87))] = (bs [z]).toArray) := by show _ = #[Value.int .u8 (z.toNat : Int)]; rw [hz, hn]
              have HL1 : Hid (1 = [z].length) := rfl
              have HMN : Hid ([z] ≠ []) := by show _ ≠ _; simp
              have HLL : Hid (L.length + [z].length ≤ 140737488355328) := by show _ ≤ _; simp; omega
              clear HEV2 HOD2 hN hz
              go_wp2_with (at_builtin; refine wpl_bsl rfl _ _ rfl w.heap.size _ L wr [z] _ HM1.out rfl 1 HL1.out rfl rfl HB.out HSZ.out HLL.out HMN.out ?_; intro v1 w3 hb1 hbel1)
              have HB2 : Hid (BSl w3 w.heap.size v1 (L ++ [z])) := hb1
              have HE2 : Hid (Below w.heap.size w w3) := HE.out.trans hbel1
              clear hb1 hbel1 HB HE
              go_wp2
              exact ⟨⟨k + 1, N, L ++ [z], by omega, hn2, by simp; omega, by rw [hn], by go_num, HB2, HE2, HOD3⟩, by simp [intOf]; omega⟩
          · have e : halfN c.toNat = -1 := by unfold halfN; rw [if_neg h1, if_neg h2]
            obtain ⟨rfl, rfl⟩ := HBAD.out (by rw [e]; decide)
            clear HBAD HEV HOD e HB
            by_cases h3 : 48 ≤ c.toNat
            · have h4 : (48 : Int) ≤ (c.toNat : Int) := by omega
              have h5 : ¬ (c.toNat : Int) ≤ 57 := by omega
              by_cases h6 : 97 ≤ c.toNat
              · have h7 : (97 : Int) ≤ (c.toNat : Int) := by omega
                have h8 : ¬ (c.toNat : Int) ≤ 102 := by omega
                clear h1 h2
                go_wp2
                go_ret2
                exact ⟨rfl, HE.out⟩
              · have h7 : ¬ (97 : Int) ≤ (c.toNat : Int) := by omega
                clear h1 h2
                go_wp2
                go_ret2
                exact ⟨rfl, HE.out⟩
            · have h4 : ¬ (48 : Int) ≤ (c.toNat : Int) := by omega
              have h7 : ¬ (97 : Int) ≤ (c.toNat : Int) := by omega
              clear h1 h2
              go_wp2
              go_ret2
              exact ⟨rfl, HE.out⟩
      · have hd : decide ((k : Int) < (s.size : Int)) = false := decide_eq_false (by omega)
        have hd2 : decide (k < s.size) = false := decide_eq_false hlt
        have e : s.data.toList.drop k = [] := List.drop_of_length_le (by simp; omega)
        have hxe : (L, 0) = (x, er) := by
          rcases HU.out with ⟨_, h2⟩ | ⟨h1, _⟩
          · rw [e] at h2; exact h2
          · exfalso; have := HP.out; simp at this; omega
        cases hxe
        have hcv := HB.out.text
        clear e HB HU
        go_wp2
        go_ret2
        exact ⟨rfl, HE.out⟩
end Go.Proofs.YtedogofeibdjiaaGreat
