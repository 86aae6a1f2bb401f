/- Rows that are put together one behind the other. -/
import Derived.Test.YtbiapepalkdkdabJoined05
import Derived.Test.YtbiapepalkdkdabJoined03
import Derived.Lib.AppendZeros
namespace Go.Proofs.Ytbiapepalkdkdab
open Go.RowKit Go.Maps
set_option linter.unusedVariables false
set_option linter.unusedSimpArgs false

/-- 'append(nil, make([]T, n)...)' -/
theorem run_grow0 {st e size bytes : Nat} (T : ElT st e size bytes) (W : World) (ty : TypeId) (n : Nat) (h0 : 0 < n) (hn : n ≤ 1048576) (hb : bytes ≤ 1048576) : ∃ cap w', (Builtin.append_ #[st, 3] ty #[.slice none 0 0, .int .i64 (n : Int)]).run Try.prog W = .ok (.slice (some ⟨W.heap.size, 0, none⟩) n cap) w' ∧ w'.ownsRow W.heap.size e size (.slice (some ⟨W.heap.size, 0, none⟩) 0 cap) 0 [] ∧ Below W.heap.size W w' := by
  obtain ⟨z, hz, hzc⟩ := T.inf
  obtain ⟨i0, hi, hz0, hz1, hz2⟩ := info_parts hz
  have hr := Lib.run_append_nil_zeros (P := Try.prog) W st 3 ty e i0 z .i64 .i64 T.und Try.underlying3 hi hz0 n h0 (by rw [hz1]; exact T.pos) (by omega) (by rw [hz2]; exact Nat.le_trans (Nat.mul_le_mul hn hb) (by decide))
  refine ⟨_, _, hr, ⟨by simp, .inr ⟨W.heap.size, grownCap W n 0 e, _, rfl, Nat.le_refl _, heap_alloc_new W.drew _, Nat.zero_le _, grownCap_le_maxLen W n 0 e (by unfold maxLen; omega), ?_, by simp⟩⟩, ?_⟩
  · rw [Array.size_append, size_zeroCells, size_zeroCells, hzc, ← Nat.add_mul, Nat.add_sub_of_le (grownCap_ge W n 0 e)]
  · exact below_al (w := W) (Below.refl W.heap.size W).drew _
/-- a row that is put behind others -/
structure Sr where
  v : Value
  n : Nat
  cs : List Value
def srN : List Sr → Nat
  | [] => 0
  | x :: r => x.n + srN r
def srC (l : List Sr) : List Value := l.flatMap (·.cs)
theorem srN_take (l : List Sr) (k : Nat) (hk : k < l.length) : srN (l.take (k + 1)) = srN (l.take k) + l[k].n := by
  induction l generalizing k with
  | nil => simp at hk
  | cons p r ih =>
    cases k with
    | zero => simp [srN]
    | succ k =>
      simp only [List.take_succ_cons, srN, List.getElem_cons_succ]
      rw [ih k (by simpa using hk)]
      omega
theorem srN_le (l : List Sr) (k : Nat) : srN (l.take k) ≤ srN l := by
  induction l generalizing k with
  | nil => simp
  | cons p r ih =>
    cases k with
    | zero => simp [srN]
    | succ k => simp only [List.take_succ_cons, srN]; have := ih k; omega
theorem srC_take (l : List Sr) (k : Nat) (hk : k < l.length) : srC (l.take (k + 1)) = srC (l.take k) ++ l[k].cs := by
  unfold srC
  rw [List.take_succ_eq_append_getElem hk, List.flatMap_append]
  simp
/-- rows in memory -/
structure SrI (w : World) (size : Nat) (v : Value) (l : List Sr) : Prop where
  row : RowC w v l.length (l.map (·.v))
  each : ∀ x ∈ l, RowC w x.v x.n x.cs ∧ x.cs.length = x.n * size ∧ ∀ u ∈ x.cs, u.oneCell' = true
theorem SrI.next {w w' : World} {size : Nat} {v : Value} {l : List Sr} (h : SrI w size v l) (hB : Below w.heap.size w w') : SrI w' size v l := ⟨h.row.next hB, fun x hx => ⟨(h.each x hx).1.next hB, (h.each x hx).2⟩⟩
theorem SrI.form {w : World} {size : Nat} {v : Value} {l : List Sr} (h : SrI w size v l) : ∃ ad cap, v = .slice ad l.length cap ∧ ∀ k (hk : k < l.length), ∃ b off, ad = some ⟨b, off, none⟩ ∧ b < w.heap.size ∧ w.cell? ⟨b, off + k, none⟩ = some l[k].v ∧ RowC w l[k].v l[k].n l[k].cs ∧ l[k].cs.length = l[k].n * size ∧ ∀ u ∈ l[k].cs, u.oneCell' = true := by
  obtain ⟨ad, cap, e, hc⟩ := RowC.form h.row
  refine ⟨ad, cap, e, fun k hk => ?_⟩
  obtain ⟨b, off, e1, hb, c0⟩ := hc k l[k].v (by simp [hk])
  exact ⟨b, off, e1, hb, c0, h.each _ (List.getElem_mem hk)⟩
theorem rowc_to {st e size bytes : Nat} (T : ElT st e size bytes) {w : World} {v : Value} {len k : Nat} {cs : List Value} (hr : RowC w v len cs) (hk : k ≤ len) : ∃ ad cap, RowC w (.slice ad k cap) k (cs.take (k * size)) ∧ ∀ W : World, (Instr.slice st v none (some (.int .i64 (k : Int))) none).run Try.prog W = .ok (.slice ad k cap) W := by
  obtain ⟨z, hz, _⟩ := T.inf
  obtain ⟨i0, hi, hi2⟩ := Option.map_eq_some_iff.1 hz
  simp only [Prod.mk.injEq] at hi2
  obtain ⟨_, hi3, _⟩ := hi2
  have e1 : (0 : Int) ≤ (k : Int) := by omega
  rcases hr with ⟨ad, cap, e0, h0, h1⟩ | ⟨b, off, cap, e0, hn, hb, hc⟩
  · subst h0 h1 e0
    have hk0 : k = 0 := by omega
    subst hk0
    refine ⟨if cap = 0 then ad else ad.map (·.add (0 * size)), cap, .inl ⟨_, _, rfl, rfl, by simp⟩, fun W => ?_⟩
    simp [Instr.slice, Instr.sliceBounds, Instr.sliceBound, asIntOf, run_underlying T.und, sizeOf, typeInfo, hi, Result.andThen]
  · subst e0
    have hkc : k ≤ cap := by omega
    have e3 : (⟨b, off, none⟩ : Addr).add 0 = ⟨b, off, none⟩ := rfl
    refine ⟨some ⟨b, off, none⟩, cap, .inr ⟨b, off, cap, rfl, hkc, hb, fun j u hu => ?_⟩, fun W => ?_⟩
    · have hj := (List.getElem?_eq_some_iff.1 hu).1
      rw [List.length_take] at hj
      rw [List.getElem?_take_of_lt (by omega)] at hu
      exact hc j u hu
    · simp [Instr.slice, Instr.sliceBounds, Instr.sliceBound, asIntOf, run_underlying T.und, sizeOf, typeInfo, hi, Result.andThen, e1, hkc, e3]
theorem rowc_from {st e size bytes : Nat} (T : ElT st e size bytes) {w : World} {v : Value} {len k : Nat} {cs : List Value} (hr : RowC w v len cs) (hcs : cs.length = len * size) (hk : k ≤ len) : ∃ ad cap, RowC w (.slice ad (len - k) cap) (len - k) (cs.drop (k * size)) ∧ ∀ W : World, (Instr.slice st v (some (.int .i64 (k : Int))) none none).run Try.prog W = .ok (.slice ad (len - k) cap) W := by
  obtain ⟨z, hz, _⟩ := T.inf
  obtain ⟨i0, hi, hi2⟩ := Option.map_eq_some_iff.1 hz
  simp only [Prod.mk.injEq] at hi2
  obtain ⟨_, hi3, _⟩ := hi2
  have e1 : (0 : Int) ≤ (k : Int) := by omega
  rcases hr with ⟨ad, cap, e0, h0, h1⟩ | ⟨b, off, cap, e0, hn, hb, hc⟩
  · subst h0 h1 e0
    have hk0 : k = 0 := by omega
    subst hk0
    refine ⟨if cap = 0 then ad else ad.map (·.add (0 * size)), cap, .inl ⟨_, _, rfl, rfl, by simp⟩, fun W => ?_⟩
    simp [Instr.slice, Instr.sliceBounds, Instr.sliceBound, asIntOf, run_underlying T.und, sizeOf, typeInfo, hi, Result.andThen]
  · subst e0
    by_cases hck : cap = k
    · have hkA : k = len := by omega
      refine ⟨some ⟨b, off, none⟩, cap - k, .inl ⟨_, _, by rw [hkA, Nat.sub_self], by omega, List.drop_eq_nil_of_le (by rw [hcs, hkA]; exact Nat.le_refl _)⟩, fun W => ?_⟩
      simp [Instr.slice, Instr.sliceBounds, Instr.sliceBound, asIntOf, run_underlying T.und, sizeOf, typeInfo, hi, Result.andThen, e1, hk, hck]
    · refine ⟨some ⟨b, off + k * size, none⟩, cap - k, .inr ⟨b, off + k * size, _, rfl, by omega, hb, fun j u hu => ?_⟩, fun W => ?_⟩
      · rw [List.getElem?_drop] at hu
        have := hc _ u hu
        rw [Nat.add_assoc]
        exact this
      · have e3 : (⟨b, off, none⟩ : Addr).add (k * size) = ⟨b, off + k * size, none⟩ := by rw [Addr.add_lit]
        simp [Instr.slice, Instr.sliceBounds, Instr.sliceBound, asIntOf, run_underlying T.und, sizeOf, typeInfo, hi, Result.andThen, e1, hk, hck, hi3, e3]
end Go.Proofs.Ytbiapepalkdkdab
