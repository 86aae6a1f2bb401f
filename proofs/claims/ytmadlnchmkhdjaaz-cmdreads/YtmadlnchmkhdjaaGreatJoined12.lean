/- Joined: A version is put ahead of a chain: the program. A version's place; one is taken away: the program. A version is taken away: the program. -/
import Derived.Test.YtmadlnchmkhdjaaGreatGApR
import Derived.Test.YtmadlnchmkhdjaaGreatJoined03
import Derived.Test.YtmadlnchmkhdjaaGreatJoined08
import Derived.ArgAppend
import Derived.Deep.QuietTactic
import Derived.BigQuiet
namespace Go.Proofs.YtmadlnchmkhdjaaGreat
open Go.RowKit Go.Maps
set_option linter.unusedVariables false
set_option linter.unusedSimpArgs false

theorem vqC_cell {w : World} {q : List (Value × Vn)} (h : VqP w q) : ∀ u ∈ vqC q, u.oneCell' = true := by
  intro u hu
  obtain ⟨y, hy, hu⟩ := List.mem_flatMap.1 hu
  obtain ⟨pv, x⟩ := y
  obtain ⟨ad, cap, e⟩ := (h _ hy).sl
  simp only at e
  subst e
  exact vnC_one ad _ cap x u hu
def hdGe (l : List Vn) (v : Vn) : Bool := match l with | [] => false | y :: _ => decide (v.id ≤ y.id)
def putE (l : List Vn) (v : Vn) : Int := if isCh l = true ∧ vnOk v = true then (if hdGe l v = true then 1 else if l.length = 32 then 131 else 0) else 1
def putL (l : List Vn) (v : Vn) : List Vn := if putE l v = 0 then v :: l else []
/-- a call that gives versions and an error -/
def GiveV (w : World) (l : List Vn) (x : Int) (e : Ending) (w' : World) : Prop := ∃ ad n cap q, e = .returned (.tuple #[.slice ad n cap, .int .i64 x]) ∧ vqL q = l ∧ VnI w' (.slice ad n cap) q ∧ Below w.heap.size w w'
theorem giveV_none {w w' : World} {x : Int} (h : Below w.heap.size w w') : GiveV w [] x (.returned (.tuple #[.slice none 0 0, .int .i64 x])) w' := ⟨none, 0, 0, [], rfl, rfl, vni_none _, h⟩
theorem vq_mem {q : List (Value × Vn)} {y : Value × Vn} (h : y ∈ q) : y.2 ∈ vqL q := List.mem_map.2 ⟨y, h, rfl⟩
end Go.Proofs.YtmadlnchmkhdjaaGreat
namespace Go.Proofs.YtmadlnchmkhdjaaGreat
open Go.RowKit Go.Maps
set_option linter.unusedVariables false
set_option linter.unusedSimpArgs false

/-- the first place of a number -/
def idxF (id : Int) : List Vn → Nat → Option Nat
  | [], _ => none
  | v :: r, k => if v.id = id then some k else idxF id r (k + 1)
theorem idxF_at (id : Int) (l : List Vn) (k : Nat) (hk : k < l.length) : idxF id (l.drop k) k = if l[k].id = id then some k else idxF id (l.drop (k + 1)) (k + 1) := by
  rw [List.drop_eq_getElem_cons hk]; rfl
theorem idxF_some {id : Int} : ∀ {l : List Vn} {k j : Nat}, idxF id l k = some j → k ≤ j ∧ ∃ h : j - k < l.length, l[j - k].id = id
  | [], k, j, h => by simp [idxF] at h
  | v :: r, k, j, h => by
    unfold idxF at h
    split at h
    · rename_i hv
      injection h with h
      subst h
      exact ⟨Nat.le_refl _, by simp, by simpa using hv⟩
    · obtain ⟨h1, h2, h3⟩ := idxF_some h
      refine ⟨by omega, by simp; omega, ?_⟩
      have e : j - k = (j - (k + 1)) + 1 := by omega
      simp only [e, List.getElem_cons_succ]
      exact h3
def plO (l : List Vn) (id : Int) : Option Nat := if isCh l = true then idxF id l 0 else none
def plE (l : List Vn) (id : Int) : Int := if isCh l = true then (if (idxF id l 0).isSome = true then 0 else 4) else 1
def plN (l : List Vn) (id : Int) : Nat := (plO l id).getD 0
theorem pl_cases (l : List Vn) (id : Int) : (isCh l = false ∧ plO l id = none ∧ plE l id = 1 ∧ plN l id = 0) ∨ (isCh l = true ∧ plO l id = none ∧ plE l id = 4 ∧ plN l id = 0) ∨ (isCh l = true ∧ ∃ j, plO l id = some j ∧ plE l id = 0 ∧ plN l id = j ∧ ∃ h : j < l.length, l[j].id = id) := by
  unfold plE plN plO
  cases h : isCh l
  · exact .inl ⟨rfl, rfl, rfl, rfl⟩
  · refine .inr ?_
    simp only [if_true]
    cases h2 : idxF id l 0 with
    | none => exact .inl ⟨trivial, rfl, rfl, rfl⟩
    | some j =>
      obtain ⟨_, h3, h4⟩ := idxF_some h2
      exact .inr ⟨trivial, j, rfl, rfl, rfl, h3, h4⟩
end Go.Proofs.YtmadlnchmkhdjaaGreat
namespace Go.Proofs.YtmadlnchmkhdjaaGreat
open Go.RowKit Go.Maps
set_option linter.unusedVariables false
set_option linter.unusedSimpArgs false

theorem wrap_succ (j : Nat) (h : j ≤ 1048576) : wrap64 ((j : Int) + 1) = (j : Int) + 1 ∧ IntKind.i64.wrap ((j : Int) + 1) = (j : Int) + 1 := by
  constructor
  · rw [IntWalk.wrap64_in _ (by omega)]
  · rw [IntKind.wrap_i64]; omega
theorem step_rapp {w w0 : World} {ops : Array Oper} {o : Oper} {a : Act} {K : Act → World → Prop} {Q : Exit → Act → World → Prop} {E : Prop} (hgd : o.guard = none) (sl x : Operand) {st e size bytes : Nat} (T : ElT st e size bytes)
    (ho : o.op = .call { callee := .builtin .append, args := #[sl, x], argTypes := #[st, st] }) (b off : Nat) (xv : Value) (olds news : List Value) (n m nm : Nat) (hnm : n + m = nm) (hk : Keep (fun _ => False) w0 w)
    (hs : a.eval sl = .slice (some ⟨b, off, none⟩) n n) (hx : a.eval x = xv) (hlo : olds.length = n * size) (holds : ∀ j u, olds[j]? = some u → w0.cell? ⟨b, off + j, none⟩ = some u) (hb : b < w0.heap.size) (hX : RowC w0 xv m news) (hl : news.length = m * size) (h1 : ∀ u ∈ news, u.oneCell' = true) (hm : nm ≤ 1048576) (hby : nm * bytes ≤ 140737488355328)
    (h : ∀ ad' cap' w', RowC w' (.slice ad' nm cap') nm (olds ++ news) → Below w0.heap.size w0 w' → K (a.put o.dst (.slice ad' nm cap')) w') : if Region.wanted o (yielded ops a.tmps) = true then Oper.wp Tryz.prog o a w K Q else E := by
  subst hnm
  have hwn : Region.wanted o (yielded ops a.tmps) = true := by simp [Region.wanted, hgd]
  rw [if_pos hwn]
  obtain ⟨ad', cap', w', hr, h2, h3⟩ := rapp T o.type hlo (fun j u hu => (hk.cell hb (fun h => h)).trans (holds j u hu)) (Nat.lt_of_lt_of_le hb hk.size) (hX.keep hk (fun _ _ h => h)) hl h1 hm hby
  unfold Oper.wp execOp
  simp only [ho, resolve, invoke, builtin, Sem.run_bind, Sem.run_pure, Result.andThen_ok, List.map_toArray, List.map_cons, List.map_nil, hs, hx, hr, Oper.upon]
  exact h ad' cap' w' h2 ((keep_below hk (fun _ _ h => h) (Nat.le_refl _)).trans (h3.mono hk.size))
theorem slice3 {st e size bytes : Nat} (T : ElT st e size bytes) (b off len cap j : Nat) (hj : j ≤ cap) (W : World) : (Instr.slice st (.slice (some ⟨b, off, none⟩) len cap) none (some (.int .i64 (j : Int))) (some (.int .i64 (j : Int)))).run Tryz.prog W = .ok (.slice (some ⟨b, off, none⟩) j j) W := by
  obtain ⟨z, hz, _⟩ := T.inf
  obtain ⟨i0, hi, _⟩ := Option.map_eq_some_iff.1 hz
  have e1 : (0 : Int) ≤ (j : Int) := by omega
  have e3 : (⟨b, off, none⟩ : Addr).add 0 = ⟨b, off, none⟩ := rfl
  simp [Instr.slice, Instr.sliceBounds, Instr.sliceBound, asIntOf, run_underlying T.und, sizeOf, typeInfo, hi, Result.andThen, e1, hj, e3]
theorem sliceFrom {st e size bytes : Nat} (T : ElT st e size bytes) {w : World} {b off len cap k : Nat} {cs : List Value} (hr : RowC w (.slice (some ⟨b, off, none⟩) len cap) len cs) (hcs : cs.length = len * size) (hk : k ≤ len) : ∃ x, RowC w x (len - k) (cs.drop (k * size)) ∧ ∀ W : World, (Instr.slice st (.slice (some ⟨b, off, none⟩) len cap) (some (.int .i64 (k : Int))) none none).run Tryz.prog W = .ok x W := by
  obtain ⟨z, hz, _⟩ := T.inf
  obtain ⟨i0, hi, hi2⟩ := Option.map_eq_some_iff.1 hz
  simp only [Prod.mk.injEq] at hi2
  obtain ⟨_, hi3, _⟩ := hi2
  have e1 : (0 : Int) ≤ (k : Int) := by omega
  rcases hr with ⟨ad, cap', e0, h0, h1⟩ | ⟨b', off', cap', e0, hn, hb, hc⟩
  · injection e0 with e0 e2 e4
    subst h0 e4
    have hk0 : k = 0 := by omega
    subst hk0
    refine ⟨.slice (some ⟨b, off, none⟩) 0 cap, .inl ⟨_, _, rfl, rfl, by rw [h1]; simp⟩, fun W => ?_⟩
    have e3 : (⟨b, off, none⟩ : Addr).add 0 = ⟨b, off, none⟩ := rfl
    simp [Instr.slice, Instr.sliceBounds, Instr.sliceBound, asIntOf, run_underlying T.und, sizeOf, typeInfo, hi, Result.andThen, e3]
  · injection e0 with e0 e2 e4
    injection e0 with e0
    injection e0 with e5 e6
    subst e5 e6 e4
    by_cases hck : cap = k
    · have hkA : k = len := by omega
      refine ⟨.slice (some ⟨b, off, none⟩) (len - k) (cap - k), .inl ⟨_, _, by rw [hkA, Nat.sub_self], by omega, List.drop_eq_nil_of_le (by rw [hcs, hkA]; exact Nat.le_refl _)⟩, fun W => ?_⟩
      simp [Instr.slice, Instr.sliceBounds, Instr.sliceBound, asIntOf, run_underlying T.und, sizeOf, typeInfo, hi, Result.andThen, e1, hk, hck]
    · refine ⟨.slice (some ⟨b, off + k * size, none⟩) (len - k) (cap - k), .inr ⟨b, off + k * size, _, rfl, by omega, hb, fun j u hu => ?_⟩, fun W => ?_⟩
      · rw [List.getElem?_drop] at hu
        have := hc _ u hu
        rw [Nat.add_assoc]
        exact this
      · have e3 : (⟨b, off, none⟩ : Addr).add (k * size) = ⟨b, off + k * size, none⟩ := by rw [Addr.add_lit]
        simp [Instr.slice, Instr.sliceBounds, Instr.sliceBound, asIntOf, run_underlying T.und, sizeOf, typeInfo, hi, Result.andThen, e1, hk, hck, hi3, e3]
theorem vqC_drop (q : List (Value × Vn)) (k : Nat) (hk : k ≤ q.length) : (vqC q).drop (k * 5) = vqC (q.drop k) := by
  have e : vqC q = vqC (q.take k) ++ vqC (q.drop k) := by rw [← vqC_app, List.take_append_drop]
  have hl : (vqC (q.take k)).length = k * 5 := by rw [vqC_len, List.length_take, Nat.min_eq_left hk]
  rw [e, ← hl, List.drop_left]
theorem vqC_pre (q : List (Value × Vn)) (k j : Nat) (u : Value) (h : (vqC (q.take k))[j]? = some u) : (vqC q)[j]? = some u := by
  have e : vqC q = vqC (q.take k) ++ vqC (q.drop k) := by rw [← vqC_app, List.take_append_drop]
  rw [e, List.getElem?_append_left (List.getElem?_eq_some_iff.1 h).1]
  exact h
def drL (l : List Vn) (n : Int) : List Vn := match plO l n with | some j => l.take j ++ l.drop (j + 1) | none => []
theorem vqL_cut (q : List (Value × Vn)) (j : Nat) : vqL (q.take j ++ q.drop (j + 1)) = (vqL q).take j ++ (vqL q).drop (j + 1) := by
  unfold vqL; rw [List.map_append, List.map_take, List.map_drop]
end Go.Proofs.YtmadlnchmkhdjaaGreat
