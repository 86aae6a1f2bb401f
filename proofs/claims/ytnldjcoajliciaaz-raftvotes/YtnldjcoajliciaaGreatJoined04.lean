/- Joined: Rows that a call owns, over worlds that are alike but for some blocks. Numbers in memory: a slice of whole numbers; those that rise. 'append' on rows of whatever elements, from whatever rows. Rows of numbers: as cells, grown by append. Entries: as values, as cells, in memory. Configurations: what is reckoned with them, on plain lists. Pieces, versions and chains: which may be; what they are in memory. 'append' on rows of whatever elements, and where the new row lies. -/
import Derived.Test.YtnldjcoajliciaaGreatJoined03
import Derived.Maps.AppendAt
import Derived.Test.YtnldjcoajliciaaGreatJoined01
import Derived.Test.YtnldjcoajliciaaGreatJoined00
namespace Go.Proofs.YtnldjcoajliciaaGreat
open Go.RowKit Go.Maps
set_option linter.unusedVariables false
set_option linter.unusedSimpArgs false

theorem Keep.ownsRow {S : Nat → Prop} {w w' : World} {base e size n : Nat} {v : Value} {xs : List Value} (k : Keep S w w') (h : w.ownsRow base e size v n xs) (hS : ∀ g, v.ownBlock = some g → ¬ S g) : w'.ownsRow base e size v n xs := by
  obtain ⟨h1, h2⟩ := h
  refine ⟨h1, h2.imp id ?_⟩
  rintro ⟨g, cap, cur, rfl, hg, hb, r⟩
  exact ⟨g, cap, cur, rfl, hg, (k.block g (Array.getElem?_eq_some_iff.1 hb).1 (hS g rfl)).trans hb, r⟩
theorem ownsRow_lt {w : World} {base e size n : Nat} {v : Value} {xs : List Value} (h : w.ownsRow base e size v n xs) {g : Nat} (hg : v.ownBlock = some g) : g < w.heap.size := by
  obtain ⟨_, h2⟩ := h
  rcases h2 with ⟨rfl, _⟩ | ⟨g', cap, cur, rfl, _, hb, _⟩
  · simp [Value.ownBlock] at hg
  · simp [Value.ownBlock] at hg; subst hg; exact (Array.getElem?_eq_some_iff.1 hb).1
theorem row_form {w : World} {B e size n : Nat} {v : Value} {xs : List Value} (h : w.ownsRow B e size v n xs) : ∃ ad cap, v = .slice ad n cap := by
  rcases h.2 with ⟨e, h0⟩ | ⟨g, cap, cur, e, _⟩
  · exact ⟨none, 0, by rw [e, h0]⟩
  · exact ⟨_, _, e⟩
theorem ownsRow_base {w : World} {B B' e size n : Nat} {v : Value} {xs : List Value} (h : w.ownsRow B e size v n xs) (hB : B' ≤ B) : w.ownsRow B' e size v n xs := by
  refine ⟨h.1, h.2.imp id ?_⟩
  rintro ⟨g, cap, cur, e, hg, r⟩
  exact ⟨g, cap, cur, e, Nat.le_trans hB hg, r⟩
theorem ownsRow_ge {w : World} {B e size n : Nat} {v : Value} {xs : List Value} (h : w.ownsRow B e size v n xs) {g : Nat} (hg : v.ownBlock = some g) : B ≤ g := by
  rcases h.2 with ⟨e, _⟩ | ⟨g', cap, cur, e, hb, _⟩
  · rw [e] at hg; simp [Value.ownBlock] at hg
  · rw [e] at hg; simp [Value.ownBlock] at hg; omega
/-- a row of elements is no row of a struct of another type -/
theorem own_ne_row {w : World} {B e s n g : Nat} {t : TypeId} {v : Value} {xs cs : List Value} (h : w.ownsRow B e s v n xs) (r : RowIs w g cs t) (hne : e ≠ t) : ¬ v.ownBlock = some g := by
  intro hg
  rcases h.2 with ⟨e0, _⟩ | ⟨g1, c1, cur1, e0, _, hb, _⟩
  · rw [e0] at hg; simp [Value.ownBlock] at hg
  · rw [e0] at hg
    simp [Value.ownBlock] at hg
    subst hg
    rw [show w.heap[g1]? = some (.cells cs.toArray t (0, 0)) from r] at hb
    injection hb with hb
    injection hb with _ hb' _
    exact hne hb'.symm
end Go.Proofs.YtnldjcoajliciaaGreat
namespace Go.Proofs.YtnldjcoajliciaaGreat
open Go.RowKit Go.Maps
set_option linter.unusedVariables false
set_option linter.unusedSimpArgs false

/-- numbers in memory -/
def IntsI (w : World) (v : Value) (l : List Int) : Prop :=
  (∃ ad cap, v = .slice ad 0 cap ∧ l = []) ∨ ∃ b off cap, v = .slice (some ⟨b, off, none⟩) l.length cap ∧ b < w.heap.size ∧ ∀ j (hj : j < l.length), w.cell? ⟨b, off + j, none⟩ = some (.int .i64 l[j])
theorem IntsI.form {w : World} {v : Value} {l : List Int} (h : IntsI w v l) : ∃ ad cap, v = .slice ad l.length cap ∧ ∀ k (hk : k < l.length), ∃ b off, ad = some ⟨b, off, none⟩ ∧ b < w.heap.size ∧ w.cell? ⟨b, off + k, none⟩ = some (.int .i64 l[k]) := by
  rcases h with ⟨ad, cap, rfl, rfl⟩ | ⟨b, off, cap, rfl, hb, hc⟩
  · exact ⟨ad, cap, rfl, fun k hk => absurd hk (by simp)⟩
  · exact ⟨_, cap, rfl, fun k hk => ⟨b, off, rfl, hb, hc k hk⟩⟩
theorem IntsI.next {w w' : World} {v : Value} {l : List Int} (h : IntsI w v l) (hB : Below w.heap.size w w') : IntsI w' v l := by
  rcases h with ⟨ad, cap, rfl, rfl⟩ | ⟨b, off, cap, rfl, hb, hc⟩
  · exact .inl ⟨ad, cap, rfl, rfl⟩
  · exact .inr ⟨b, off, cap, rfl, Nat.lt_of_lt_of_le hb hB.size, fun j hj => by rw [← hc j hj]; exact hB.cell hb⟩
/-- numbers that rise, above a and below 7 -/
def rises : Int → List Int → Bool
  | _, [] => true
  | a, x :: r => decide (a < x) && decide (x < 7) && rises x r
def areM (l : List Int) : Bool := rises (-1) l && decide (0 < l.length)
theorem rises_at {a : Int} {l : List Int} {k : Nat} (hk : k < l.length) : rises a (l.drop k) = (decide (a < l[k]) && decide (l[k] < 7) && rises l[k] (l.drop (k + 1))) := by
  rw [List.drop_eq_getElem_cons hk]; rfl
theorem srow (w : World) (cs : List Value) (t : TypeId) : RowIs (w.alloc (.cells cs.toArray t)) w.heap.size cs t := heap_alloc_new _ _
theorem rises_bd {a : Int} {l : List Int} (h : rises a l = true) (ha : -1 ≤ a) : ∀ x ∈ l, 0 ≤ x ∧ x < 7 := by
  induction l generalizing a with
  | nil => intro x hx; cases hx
  | cons y r ih =>
    simp [rises] at h
    intro x hx
    rcases List.mem_cons.1 hx with e | e
    · subst e; omega
    · exact ih h.2 (by omega) x e
theorem rises_len {a : Int} {l : List Int} (h : rises a l = true) (ha : a < 7) : (l.length : Int) + a ≤ 6 := by
  induction l generalizing a with
  | nil => simp; omega
  | cons y r ih =>
    simp [rises] at h
    have := ih h.2 h.1.2
    simp; omega
theorem areM_len {l : List Int} (h : areM l = true) : 1 ≤ l.length ∧ l.length ≤ 7 := by
  simp [areM] at h
  have := rises_len h.1 (by omega)
  omega
end Go.Proofs.YtnldjcoajliciaaGreat
namespace Go.Proofs.YtnldjcoajliciaaGreat
open Go.RowKit Go.Maps
set_option linter.unusedVariables false
set_option linter.unusedSimpArgs false

/-- a slice's type, its elements' type, their cells and bytes -/
structure ElT (st e size bytes : Nat) : Prop where
  und : Tryz.prog.underlying st = some (.slice e)
  inf : ∃ z, (Tryz.prog.info? e).map (fun i => (i.zero, i.size, i.bytes)) = some (some z, size, bytes) ∧ z.cells.size = size
  pos : 0 < size
/-- cells that are read from a slice -/
def GSrc (w : World) (x : Value) (m : Nat) (cs : List Value) : Prop := (∃ c, x = .slice none 0 c ∧ m = 0 ∧ cs = []) ∨ ∃ g off c, x = .slice (some ⟨g, off, none⟩) m c ∧ g < w.heap.size ∧ ∀ j u, cs[j]? = some u → w.cell? ⟨g, off + j, none⟩ = some u
theorem GSrc.keep {w w' : World} {x : Value} {m : Nat} {cs : List Value} (h : GSrc w x m cs) (S : Nat → Prop) (k : Keep S w w') (hS : ∀ g, g < w.heap.size → ¬ S g) : GSrc w' x m cs := by
  rcases h with h | ⟨g, off, c, e, hg, hc⟩
  · exact .inl h
  · exact .inr ⟨g, off, c, e, Nat.lt_of_lt_of_le hg k.size, fun j u hu => (k.cell hg (hS g hg)).trans (hc j u hu)⟩
theorem grow_at {w : World} {B e size n g cap k : Nat} {xs : List Value} {u : Value} (h : w.ownsRow B e size (.slice (some ⟨g, 0, none⟩) n cap) n xs) (hk : xs[k]? = some u) : w.cell? ⟨g, k, none⟩ = some u := by
  obtain ⟨h1, h2⟩ := h
  rcases h2 with ⟨e0, _⟩ | ⟨g', cap', cur, e0, hg, hb, hn, hm, hs, ht⟩
  · injection e0 with e0; cases e0
  · injection e0 with e1 e2 e3
    injection e1 with e1
    injection e1 with e1
    subst e1
    have hkl : k < xs.length := (List.getElem?_eq_some_iff.1 hk).1
    rw [cell_of_row _ _ _ _ _ _ hb, ← hk, ← ht, List.getElem?_take_of_lt (by omega)]
    simp
theorem gsrc_all {w : World} {B e size n : Nat} {v : Value} {xs : List Value} (h : w.ownsRow B e size v n xs) : GSrc w v n xs := by
  rcases h.2 with ⟨e0, h0⟩ | ⟨g, cap, cur, e0, _, hb, hn, _⟩
  · exact .inl ⟨0, e0, h0, List.length_eq_zero_iff.1 (by rw [h.1, h0, Nat.zero_mul])⟩
  · refine .inr ⟨g, 0, cap, e0, (Array.getElem?_eq_some_iff.1 hb).1, fun j u hu => ?_⟩
    rw [Nat.zero_add]
    exact grow_at (e0 ▸ h) hu
theorem gappL {st e size bytes : Nat} (T : ElT st e size bytes) {w : World} {B n m : Nat} {v x : Value} {xs cs : List Value} (ty : TypeId) (h0 : w.ownsRow B e size v n xs) (hB : B ≤ w.heap.size) (hx : GSrc w x m cs) (hcs : cs.length = m * size) (h1 : ∀ u ∈ cs, u.oneCell' = true) (hm : n + m ≤ 4611686018427387904) (hl : (n + m) * bytes ≤ 140737488355328) :
    ∃ ad' cap' w', (Builtin.append_ #[st, st] ty #[v, x]).run Tryz.prog w = .ok (.slice ad' (n + m) cap') w' ∧ w'.ownsRow B e size (.slice ad' (n + m) cap') (n + m) (xs ++ cs) ∧ Keep (fun k => v.ownBlock = some k) w w' := by
  obtain ⟨z, hz, hzc⟩ := T.inf
  obtain ⟨i0, hi, hz0, hz1, hz2⟩ := info_parts hz
  rcases hx with ⟨c, rfl, rfl, rfl⟩ | ⟨g, off, c, rfl, hg, hc⟩
  · obtain ⟨ad, cap, rfl⟩ := row_form h0
    have hle : n ≤ cap := by
      rcases h0.2 with ⟨e0, h⟩ | ⟨g, cap', cur, e0, _, _, h, _⟩
      · omega
      · injection e0 with _ _ e3; omega
    refine ⟨ad, cap, w, ?_, by simpa using h0, Keep.refl _ _⟩
    cases ad <;> simp [Builtin.append_, run_underlying T.und, sizeOf, typeInfo, hi, Builtin.lenOf, Builtin.firstCells, hle, storeCells]
  · obtain ⟨v', w', hr, h2, h3, h4, h5⟩ := run_append_own_at (P := Tryz.prog) w B st ty e i0 _ size bytes T.und hi hz0 hz1 hz2 hzc T.pos v n xs h0 ⟨g, off, none⟩ m c cs hcs
      (fun j u hu => by rw [Addr.add_lit]; exact hc j u hu) h1 (by unfold maxLen; omega) hl hB
    obtain ⟨ad', cap', rfl⟩ := row_form h2
    exact ⟨ad', cap', w', hr, h2, ⟨h3.os, h3.tape, h3.output, h3.size, fun k hk hn => h3.block k hk (fun e => hn e.symm)⟩⟩
theorem gapp {st e size bytes : Nat} (T : ElT st e size bytes) {w : World} {B n m : Nat} {v x : Value} {xs cs : List Value} (ty : TypeId) (h0 : w.ownsRow B e size v n xs) (hB : B ≤ w.heap.size) (hx : GSrc w x m cs) (hcs : cs.length = m * size) (h1 : ∀ u ∈ cs, u.oneCell' = true) (hm : n + m ≤ 70368744177) (hl : (n + m) * bytes ≤ 140737488355328) :
    ∃ ad' cap' w', (Builtin.append_ #[st, st] ty #[v, x]).run Tryz.prog w = .ok (.slice ad' (n + m) cap') w' ∧ w'.ownsRow B e size (.slice ad' (n + m) cap') (n + m) (xs ++ cs) ∧ Keep (fun k => v.ownBlock = some k) w w' :=
  gappL T ty h0 hB hx hcs h1 (by omega) hl
theorem wpl_gapp {w : World} {ops : Array Oper} {rest : List Oper} {o : Oper} {a : Act} {Q : Exit → Act → World → Prop} (hgd : o.guard = none) (sl x : Operand) {st e size bytes : Nat} (T : ElT st e size bytes)
    (ho : o.op = .call { callee := .builtin .append, args := #[sl, x], argTypes := #[st, st] }) (B : Nat) (v xv : Value) (xs cs : List Value) (n m nm : Nat) (hnm : n + m = nm)
    (hs : a.eval sl = v) (hx : a.eval x = xv) (h0 : w.ownsRow B e size v n xs) (hB : B ≤ w.heap.size) (hX : GSrc w xv m cs) (hcs : cs.length = m * size) (h1 : ∀ u ∈ cs, u.oneCell' = true) (hl : nm ≤ 70368744177) (hby : nm * bytes ≤ 140737488355328)
    (h : ∀ ad' cap' w', w'.ownsRow B e size (.slice ad' nm cap') nm (xs ++ cs) → Keep (fun k => v.ownBlock = some k) w w' → wpList Tryz.prog ops Q rest (a.put o.dst (.slice ad' nm cap')) w') : wpList Tryz.prog ops Q (o :: rest) a w := by
  subst hnm
  refine wpList_plain hgd fun K hK => ?_
  obtain ⟨ad', cap', w', hr, h2, h3⟩ := gapp T o.type h0 hB hX hcs h1 hl hby
  unfold Oper.wp execOp
  simp only [ho, resolve, invoke, builtin, Sem.run_bind, Sem.run_pure, Result.andThen_ok, List.map_toArray, List.map_cons, List.map_nil, hs, hx, hr]
  exact hK _ _ (h ad' cap' w' h2 h3)
/-- a row without cells, of the call's own -/
theorem own_empty {W : World} {g B e size : Nat} (hb : W.heap[g]? = some (.cells #[] e (0, 0))) (hB : B ≤ g) : W.ownsRow B e size (.slice (some ⟨g, 0, none⟩) 0 0) 0 [] :=
  ⟨by simp, .inr ⟨g, 0, #[], rfl, hB, hb, Nat.le_refl _, by simp⟩⟩
theorem gsrc_block {W : World} {g m c e : Nat} {cs : List Value} (hb : W.heap[g]? = some (.cells cs.toArray e (0, 0))) : GSrc W (.slice (some ⟨g, 0, none⟩) m c) m cs :=
  .inr ⟨g, 0, c, rfl, (Array.getElem?_eq_some_iff.1 hb).1, fun j u hu => by rw [Nat.zero_add, cell_of_row _ _ _ _ _ _ hb]; simpa using hu⟩
end Go.Proofs.YtnldjcoajliciaaGreat
namespace Go.Proofs.YtnldjcoajliciaaGreat
open Go.RowKit Go.Maps
set_option linter.unusedVariables false
set_option linter.unusedSimpArgs false

/-- numbers as cells -/
def isC (l : List Int) : List Value := l.map (Value.int .i64)
theorem isC_len (l : List Int) : (isC l).length = l.length := List.length_map ..
theorem isC_get (l : List Int) (k : Nat) (hk : k < l.length) : (isC l)[k]? = some (.int .i64 l[k]) := by simp [isC, hk]
theorem isC_set (l : List Int) (k : Nat) (x : Int) : (isC l).set k (.int .i64 x) = isC (l.set k x) := by simp [isC, List.map_set]
theorem info3 : (Tryz.prog.info? 3).map (fun i => (i.zero, i.size, i.bytes)) = some (some (.int .i64 0), 1, 8) := by kernel_rfl
theorem row_ints {w : World} {g cap : Nat} {t : TypeId} {l : List Int} (h : RowIs w g (isC l) t) : IntsI w (.slice (some ⟨g, 0, none⟩) l.length cap) l :=
  .inr ⟨g, 0, cap, rfl, h.lt, fun j hj => by rw [Nat.zero_add]; exact h.cellAt (isC_get l j hj)⟩
theorem row_old {w : World} {g : Nat} {cs : List Value} {t : TypeId} (h : RowIs w g cs t) (o : Obj) : RowIs (w.alloc o) g cs t := h.keep (keep_alloc (fun _ => False) _ _) (fun h => h)
theorem below_al {w W : World} (h : Below w.heap.size w W) (o : Obj) : Below w.heap.size w (W.alloc o) := h.alloc h.size o
theorem below_on {w W W' : World} (h : Below w.heap.size w W) (k : Below W.heap.size W W') : Below w.heap.size w W' := h.trans (k.mono h.size)
theorem ints_none (w : World) : IntsI w (.slice none 0 0) [] := .inl ⟨none, 0, rfl, rfl⟩
theorem elInt : ElT 26 3 1 8 := ⟨Tryz.underlying26, ⟨.int .i64 0, by kernel_rfl, rfl⟩, by decide⟩
/-- numbers in a row that the call owns -/
def OwnI (w : World) (B : Nat) (v : Value) (l : List Int) : Prop := w.ownsRow B 3 1 v l.length (isC l)
theorem ownI_nil (w : World) (B : Nat) : OwnI w B (.slice none 0 0) [] := ⟨rfl, .inl ⟨rfl, rfl⟩⟩
theorem OwnI.form {w : World} {B : Nat} {v : Value} {l : List Int} (h : OwnI w B v l) : ∃ ad cap, v = .slice ad l.length cap := row_form h
theorem OwnI.ints {w : World} {B : Nat} {v : Value} {l : List Int} (h : OwnI w B v l) : IntsI w v l := by
  rcases gsrc_all h with ⟨c, e, h0, h1⟩ | ⟨g, off, c, e, hg, hc⟩
  · have hl : l = [] := List.length_eq_zero_iff.1 h0
    subst hl
    exact .inl ⟨none, c, e, rfl⟩
  · exact .inr ⟨g, off, c, e, hg, fun j hj => hc j _ (isC_get l j hj)⟩
theorem OwnI.next {w w' : World} {B : Nat} {v : Value} {l : List Int} (h : OwnI w B v l) (hB : Below w.heap.size w w') : OwnI w' B v l :=
  (hB.keep (fun _ => False)).ownsRow h (fun _ _ h => h)
theorem wpl_iapp {w : World} {ops : Array Oper} {rest : List Oper} {o : Oper} {a : Act} {Q : Exit → Act → World → Prop} (hgd : o.guard = none) (sl x : Operand)
    (ho : o.op = .call { callee := .builtin .append, args := #[sl, x], argTypes := #[26, 26] }) (B g n : Nat) (v : Value) (l : List Int) (y : Int) (hn : l.length = n)
    (hs : a.eval sl = v) (hx : a.eval x = .slice (some ⟨g, 0, none⟩) 1 1) (h0 : OwnI w B v l) (hB : B ≤ w.heap.size) (hg : RowIs w g [.int .i64 y] 3) (hl : l.length + 1 ≤ 70368744177)
    (h : ∀ ad' cap' w', OwnI w' B (.slice ad' (n + 1) cap') (l ++ [y]) → Below B w w' → wpList Tryz.prog ops Q rest (a.put o.dst (.slice ad' (n + 1) cap')) w') : wpList Tryz.prog ops Q (o :: rest) a w := by
  subst hn
  refine wpl_gapp hgd sl x elInt ho B v _ (isC l) [.int .i64 y] l.length 1 (l.length + 1) rfl hs hx h0 hB (gsrc_block hg) rfl (fun u hu => by simp at hu; subst hu; rfl) (by omega) (by omega) ?_
  intro ad' cap' w' ho' hk'
  refine h ad' cap' w' ?_ (keep_below hk' (fun k hk e => ?_) hB)
  · unfold OwnI
    rw [show isC (l ++ [y]) = isC l ++ [.int .i64 y] by simp [isC], show (l ++ [y]).length = l.length + 1 by simp]
    exact ho'
  · have := ownsRow_ge h0 e
    omega
theorem own_new {w : World} {B : Nat} {v : Value} {l : List Int} (h : OwnI w B v l) (o : Obj) : OwnI (w.alloc o) B v l := h.next ((Below.refl _ _).alloc (Nat.le_refl _) o)
end Go.Proofs.YtnldjcoajliciaaGreat
namespace Go.Proofs.YtnldjcoajliciaaGreat
open Go.RowKit Go.Maps
set_option linter.unusedVariables false
set_option linter.unusedSimpArgs false

/-- an entry -/
structure En where
  tm : Int
  kd : Int
  da : ByteArray
def enC (x : En) : List Value := [.int .i64 x.tm, .int .i64 x.kd, .string x.da]
/-- entries in memory -/
def EntI (w : World) (v : Value) (l : List En) : Prop :=
  (∃ ad cap, v = .slice ad 0 cap ∧ l = []) ∨ ∃ b off cap, v = .slice (some ⟨b, off, none⟩) l.length cap ∧ b < w.heap.size ∧ ∀ j (hj : j < l.length), ∀ i, i < 3 → w.cell? ⟨b, off + j * 3 + i, none⟩ = (enC l[j])[i]?
theorem EntI.form {w : World} {v : Value} {l : List En} (h : EntI w v l) : ∃ ad cap, v = .slice ad l.length cap ∧ ∀ k (hk : k < l.length), ∃ b off, ad = some ⟨b, off, none⟩ ∧ b < w.heap.size ∧ w.cell? ⟨b, off + k * 3, none⟩ = some (.int .i64 l[k].tm) ∧ w.cell? ⟨b, off + k * 3 + 1, none⟩ = some (.int .i64 l[k].kd) ∧ w.cell? ⟨b, off + k * 3 + 2, none⟩ = some (.string l[k].da) := by
  rcases h with ⟨ad, cap, rfl, rfl⟩ | ⟨b, off, cap, rfl, hb, hc⟩
  · exact ⟨ad, cap, rfl, fun k hk => absurd hk (by simp)⟩
  · exact ⟨_, cap, rfl, fun k hk => ⟨b, off, rfl, hb, hc k hk 0 (by omega), hc k hk 1 (by omega), hc k hk 2 (by omega)⟩⟩
theorem EntI.next {w w' : World} {v : Value} {l : List En} (h : EntI w v l) (hB : Below w.heap.size w w') : EntI w' v l := by
  rcases h with ⟨ad, cap, rfl, rfl⟩ | ⟨b, off, cap, rfl, hb, hc⟩
  · exact .inl ⟨ad, cap, rfl, rfl⟩
  · exact .inr ⟨b, off, cap, rfl, Nat.lt_of_lt_of_le hb hB.size, fun j hj i hi => by rw [← hc j hj i hi]; exact hB.cell hb⟩
/-- cells of entries -/
def ensC (l : List En) : List Value := l.flatMap enC
theorem ensC_get : ∀ (l : List En) (i : Nat) (h : i < l.length) (j : Nat), j < 3 → (ensC l)[i * 3 + j]? = (enC l[i])[j]?
  | x :: r, 0, _, j, hj => by
    show (enC x ++ ensC r)[0 * 3 + j]? = _
    rw [List.getElem?_append_left (by simp [enC]; omega)]
    simp
  | x :: r, i + 1, h, j, hj => by
    show (enC x ++ ensC r)[(i + 1) * 3 + j]? = _
    rw [List.getElem?_append_right (by simp [enC]; omega), show (i + 1) * 3 + j - (enC x).length = i * 3 + j by simp [enC]; omega]
    exact ensC_get r i (by simpa using h) j hj
theorem enC_cell1 (x : En) : ∀ u ∈ enC x, u.oneCell' = true := by
  intro u hu
  simp [enC] at hu
  rcases hu with rfl | rfl | rfl <;> rfl
theorem ensC_snoc (l : List En) (x : En) : ensC (l ++ [x]) = ensC l ++ enC x := by simp [ensC]
theorem elEn : ElT 38 52 3 32 := ⟨Tryz.underlying38, ⟨.agg #[.int .i64 0, .int .i64 0, .string ⟨#[]⟩], by kernel_rfl, rfl⟩, by decide⟩
/-- entries in a row that the call owns -/
def OwnE (w : World) (B : Nat) (v : Value) (l : List En) : Prop := w.ownsRow B 52 3 v l.length (ensC l)
theorem OwnE.form {w : World} {B : Nat} {v : Value} {l : List En} (h : OwnE w B v l) : ∃ ad cap, v = .slice ad l.length cap := row_form h
theorem OwnE.keep {S : Nat → Prop} {w w' : World} {B : Nat} {v : Value} {l : List En} (h : OwnE w B v l) (k : Keep S w w') (hS : ∀ g, B ≤ g → ¬ S g) : OwnE w' B v l := k.ownsRow h (fun g e => hS g (ownsRow_ge h e))
theorem OwnE.ents {w : World} {B : Nat} {v : Value} {l : List En} (h : OwnE w B v l) : EntI w v l := by
  rcases gsrc_all h with ⟨c, e, h0, h1⟩ | ⟨g, off, c, e, hg, hc⟩
  · have hl : l = [] := List.length_eq_zero_iff.1 h0
    subst hl
    exact .inl ⟨none, c, e, rfl⟩
  · refine .inr ⟨g, off, c, e, hg, fun j hj i hi => ?_⟩
    have h1 := ensC_get l j hj i hi
    have h2 : i < (enC l[j]).length := hi
    rw [List.getElem?_eq_getElem h2] at h1 ⊢
    have := hc _ _ h1
    rw [show off + (j * 3 + i) = off + j * 3 + i by omega] at this
    exact this
end Go.Proofs.YtnldjcoajliciaaGreat
namespace Go.Proofs.YtnldjcoajliciaaGreat
open Go.RowKit Go.Maps
set_option linter.unusedVariables false
set_option linter.unusedSimpArgs false

/-- is a number in a list? -/
def hasI (n : Int) : List Int → Bool
  | [] => false
  | x :: r => (x == n) || hasI n r
theorem hasI_at {n : Int} {l : List Int} {k : Nat} (hk : k < l.length) : hasI n (l.drop k) = ((l[k] == n) || hasI n (l.drop (k + 1))) := by
  rw [List.drop_eq_getElem_cons hk]; rfl
/-- how many of a list are in another one -/
def cmn (o : List Int) : List Int → Nat
  | [] => 0
  | x :: r => (if hasI x o = true then 1 else 0) + cmn o r
theorem cmn_at {o l : List Int} {k : Nat} (hk : k < l.length) : cmn o (l.drop k) = (if hasI l[k] o = true then 1 else 0) + cmn o (l.drop (k + 1)) := by
  rw [List.drop_eq_getElem_cons hk]; rfl
theorem cmn_le (o l : List Int) : cmn o l ≤ l.length := by
  induction l with
  | nil => simp [cmn]
  | cons x r ih => simp only [cmn, List.length_cons]; split <;> omega
def isNd (n : Int) : Bool := decide (0 ≤ n) && decide (n < 7)
def chkC (l : List Int) : Int := if areM l = true then 0 else 70
def majC (l : List Int) : Nat := if areM l = true then l.length / 2 + 1 else 0
def engC (l who : List Int) : Bool := areM l && decide (l.length / 2 + 1 ≤ cmn who l)
theorem areM_bd {l : List Int} (h : areM l = true) : ∀ x ∈ l, 0 ≤ x ∧ x < 7 := by
  simp [areM] at h
  exact rises_bd h.1 (by omega)
/-- the nodes from n on -/
def nodesF : Nat → Int → List Int
  | 0, _ => []
  | k + 1, n => n :: nodesF k (n + 1)
theorem nds_at : ∀ k : Nat, k < 7 → (nodesF 7 0).drop k = (k : Int) :: (nodesF 7 0).drop (k + 1) := by decide
end Go.Proofs.YtnldjcoajliciaaGreat
namespace Go.Proofs.YtnldjcoajliciaaGreat
open Go.RowKit Go.Maps
set_option linter.unusedVariables false
set_option linter.unusedSimpArgs false

/-- a piece -/
structure Pc where
  id : ByteArray
  sz : Int
/-- a version -/
structure Vn where
  id : Int
  ma : Bool
  sz : Int
  sum : ByteArray
  ps : List Pc
/-- cells that are read from a slice, of whatever place where there are none -/
def RowC (w : World) (v : Value) (n : Nat) (cs : List Value) : Prop :=
  (∃ ad cap, v = .slice ad 0 cap ∧ n = 0 ∧ cs = []) ∨ ∃ b off cap, v = .slice (some ⟨b, off, none⟩) n cap ∧ n ≤ cap ∧ b < w.heap.size ∧ ∀ j u, cs[j]? = some u → w.cell? ⟨b, off + j, none⟩ = some u
theorem RowC.form {w : World} {v : Value} {n : Nat} {cs : List Value} (h : RowC w v n cs) : ∃ ad cap, v = .slice ad n cap ∧ ∀ j u, cs[j]? = some u → ∃ b off, ad = some ⟨b, off, none⟩ ∧ b < w.heap.size ∧ w.cell? ⟨b, off + j, none⟩ = some u := by
  rcases h with ⟨ad, cap, rfl, rfl, rfl⟩ | ⟨b, off, cap, rfl, _, hb, hc⟩
  · exact ⟨ad, cap, rfl, fun j u hu => by simp at hu⟩
  · exact ⟨_, cap, rfl, fun j u hu => ⟨b, off, rfl, hb, hc j u hu⟩⟩
theorem RowC.next {w w' : World} {v : Value} {n : Nat} {cs : List Value} (h : RowC w v n cs) (hB : Below w.heap.size w w') : RowC w' v n cs := by
  rcases h with h | ⟨b, off, cap, rfl, hn, hb, hc⟩
  · exact .inl h
  · exact .inr ⟨b, off, cap, rfl, hn, Nat.lt_of_lt_of_le hb hB.size, fun j u hu => (hB.cell (p := ⟨b, off + j, none⟩) hb).trans (hc j u hu)⟩
theorem RowC.keep {S : Nat → Prop} {w w' : World} {v : Value} {n : Nat} {cs : List Value} (h : RowC w v n cs) (k : Keep S w w') (hS : ∀ g, g < w.heap.size → ¬ S g) : RowC w' v n cs :=
  h.next (keep_below k hS (Nat.le_refl _))
/-- the row stays where what is changed lies above what it was made of -/
theorem RowC.own {w : World} {B e size n : Nat} {v : Value} {xs : List Value} (h : w.ownsRow B e size v n xs) : RowC w v n xs := by
  rcases h.2 with ⟨e0, h0⟩ | ⟨g, cap, cur, e0, _, hb, hn, _⟩
  · exact .inl ⟨none, 0, by rw [e0], h0, List.length_eq_zero_iff.1 (by rw [h.1, h0, Nat.zero_mul])⟩
  · refine .inr ⟨g, 0, cap, e0, hn, (Array.getElem?_eq_some_iff.1 hb).1, fun j u hu => ?_⟩
    rw [Nat.zero_add]
    exact grow_at (e0 ▸ h) hu
def pcC (p : Pc) : List Value := [.string p.id, .int .i64 p.sz]
def pcsC (l : List Pc) : List Value := l.flatMap pcC
theorem flat_get {α : Type} (f : α → List Value) (n : Nat) (l : List α) (hf : ∀ x ∈ l, (f x).length = n) (k : Nat) (hk : k < l.length) (i : Nat) (hi : i < n) : (l.flatMap f)[k * n + i]? = (f l[k])[i]? := by
  induction l generalizing k with
  | nil => simp at hk
  | cons x r ih =>
    have hx := hf x (by simp)
    rw [List.flatMap_cons]
    cases k with
    | zero =>
      rw [List.getElem?_append_left (by omega)]
      simp
    | succ k =>
      rw [List.getElem?_append_right (by rw [hx, Nat.succ_mul]; omega)]
      have e : (k + 1) * n + i - (f x).length = k * n + i := by rw [hx, Nat.succ_mul]; omega
      rw [e, ih (fun y hy => hf y (List.mem_cons_of_mem _ hy)) k (by simpa using hk)]
      simp
theorem pcsC_get (l : List Pc) (k : Nat) (hk : k < l.length) (i : Nat) (hi : i < 2) : (pcsC l)[k * 2 + i]? = (pcC l[k])[i]? := flat_get pcC 2 l (fun _ _ => rfl) k hk i hi
/-- pieces in memory -/
def PcI (w : World) (v : Value) (l : List Pc) : Prop := RowC w v l.length (pcsC l)
theorem PcI.next {w w' : World} {v : Value} {l : List Pc} (h : PcI w v l) (hB : Below w.heap.size w w') : PcI w' v l := RowC.next h hB
theorem PcI.form {w : World} {v : Value} {l : List Pc} (h : PcI w v l) : ∃ ad cap, v = .slice ad l.length cap ∧ ∀ k (hk : k < l.length), ∃ b off, ad = some ⟨b, off, none⟩ ∧ b < w.heap.size ∧ w.cell? ⟨b, off + k * 2, none⟩ = some (.string l[k].id) ∧ w.cell? ⟨b, off + k * 2 + 1, none⟩ = some (.int .i64 l[k].sz) := by
  obtain ⟨ad, cap, e, hc⟩ := RowC.form h
  refine ⟨ad, cap, e, fun k hk => ?_⟩
  obtain ⟨b, off, e1, hb, c0⟩ := hc (k * 2 + 0) _ (pcsC_get l k hk 0 (by omega))
  obtain ⟨b', off', e1', _, c1⟩ := hc (k * 2 + 1) _ (pcsC_get l k hk 1 (by omega))
  rw [e1] at e1'
  injection e1' with e2
  injection e2 with e3 e4
  subst e3 e4
  exact ⟨b, off, e1, hb, c0, c1⟩
theorem PcI.sl {w : World} {v : Value} {l : List Pc} (h : PcI w v l) : ∃ ad cap, v = .slice ad l.length cap := by
  obtain ⟨ad, cap, e, _⟩ := h.form
  exact ⟨ad, cap, e⟩
def vnC (y : Value × Vn) : List Value := [.int .i64 y.2.id, .bool y.2.ma, .int .i64 y.2.sz, .string y.2.sum, y.1]
def vqC (q : List (Value × Vn)) : List Value := q.flatMap vnC
theorem vqC_get (q : List (Value × Vn)) (k : Nat) (hk : k < q.length) (i : Nat) (hi : i < 5) : (vqC q)[k * 5 + i]? = (vnC q[k])[i]? := flat_get vnC 5 q (fun _ _ => rfl) k hk i hi
/-- the pieces of each lie in memory -/
def VqP (w : World) (q : List (Value × Vn)) : Prop := ∀ y ∈ q, PcI w y.1 y.2.ps
theorem VqP.next {w w' : World} {q : List (Value × Vn)} (h : VqP w q) (hB : Below w.heap.size w w') : VqP w' q := fun y hy => (h y hy).next hB
/-- versions in memory -/
def VnI (w : World) (v : Value) (q : List (Value × Vn)) : Prop := RowC w v q.length (vqC q) ∧ VqP w q
theorem VnI.next {w w' : World} {v : Value} {q : List (Value × Vn)} (h : VnI w v q) (hB : Below w.heap.size w w') : VnI w' v q := ⟨RowC.next h.1 hB, h.2.next hB⟩
theorem VnI.form {w : World} {v : Value} {q : List (Value × Vn)} (h : VnI w v q) : ∃ ad cap, v = .slice ad q.length cap ∧ ∀ k (hk : k < q.length), ∃ b off, ad = some ⟨b, off, none⟩ ∧ b < w.heap.size ∧ w.cell? ⟨b, off + k * 5, none⟩ = some (.int .i64 q[k].2.id) ∧ w.cell? ⟨b, off + k * 5 + 1, none⟩ = some (.bool q[k].2.ma) ∧ w.cell? ⟨b, off + k * 5 + 2, none⟩ = some (.int .i64 q[k].2.sz) ∧ w.cell? ⟨b, off + k * 5 + 3, none⟩ = some (.string q[k].2.sum) ∧ w.cell? ⟨b, off + k * 5 + 4, none⟩ = some q[k].1 ∧ PcI w q[k].1 q[k].2.ps := by
  obtain ⟨h1, h2⟩ := h
  rcases h1 with ⟨ad, cap, rfl, h0, _⟩ | ⟨b, off, cap, rfl, _, hb, hc⟩
  · exact ⟨ad, cap, by rw [h0], fun k hk => by omega⟩
  · refine ⟨_, cap, rfl, fun k hk => ⟨b, off, rfl, hb, ?_, ?_, ?_, ?_, ?_, h2 _ (List.getElem_mem hk)⟩⟩
    · have := hc (k * 5 + 0) _ (vqC_get q k hk 0 (by omega)); exact this
    · have := hc (k * 5 + 1) _ (vqC_get q k hk 1 (by omega)); rw [← Nat.add_assoc] at this; exact this
    · have := hc (k * 5 + 2) _ (vqC_get q k hk 2 (by omega)); rw [← Nat.add_assoc] at this; exact this
    · have := hc (k * 5 + 3) _ (vqC_get q k hk 3 (by omega)); rw [← Nat.add_assoc] at this; exact this
    · have := hc (k * 5 + 4) _ (vqC_get q k hk 4 (by omega)); rw [← Nat.add_assoc] at this; exact this
end Go.Proofs.YtnldjcoajliciaaGreat
namespace Go.Proofs.YtnldjcoajliciaaGreat
open Go.RowKit Go.Maps
set_option linter.unusedVariables false
set_option linter.unusedSimpArgs false

/-- the new row lies where the old one lay, or is new -/
def LocG (w : World) (v v' : Value) : Prop := v'.ownBlock = v.ownBlock ∨ ∃ g, v'.ownBlock = some g ∧ w.heap.size ≤ g
def LocN (w : World) (v v' : Value) : Prop := ∀ g, v'.ownBlock = some g → v.ownBlock = some g ∨ w.heap.size ≤ g
theorem LocG.n {w : World} {v v' : Value} (h : LocG w v v') : LocN w v v' := fun g e => by
  rcases h with h1 | ⟨g', h1, h2⟩
  · exact .inl (by rw [← h1]; exact e)
  · rw [e] at h1; injection h1 with h1; exact .inr (by omega)
theorem gapp_at {st e size bytes : Nat} (T : ElT st e size bytes) {w : World} {B n m : Nat} {v x : Value} {xs cs : List Value} (ty : TypeId) (h0 : w.ownsRow B e size v n xs) (hB : B ≤ w.heap.size) (hx : GSrc w x m cs) (hcs : cs.length = m * size) (h1 : ∀ u ∈ cs, u.oneCell' = true) (hm : n + m ≤ 70368744177) (hl : (n + m) * bytes ≤ 140737488355328) :
    ∃ ad' cap' w', (Builtin.append_ #[st, st] ty #[v, x]).run Tryz.prog w = .ok (.slice ad' (n + m) cap') w' ∧ w'.ownsRow B e size (.slice ad' (n + m) cap') (n + m) (xs ++ cs) ∧ Keep (fun k => v.ownBlock = some k) w w' ∧ LocG w v (.slice ad' (n + m) cap') := by
  obtain ⟨z, hz, hzc⟩ := T.inf
  obtain ⟨i0, hi, hz0, hz1, hz2⟩ := info_parts hz
  rcases hx with ⟨c, rfl, rfl, rfl⟩ | ⟨g, off, c, rfl, hg, hc⟩
  · obtain ⟨ad, cap, rfl⟩ := row_form h0
    have hle : n ≤ cap := by
      rcases h0.2 with ⟨e0, h⟩ | ⟨g, cap', cur, e0, _, _, h, _⟩
      · omega
      · injection e0 with _ _ e3; omega
    refine ⟨ad, cap, w, ?_, by simpa using h0, Keep.refl _ _, .inl rfl⟩
    cases ad <;> simp [Builtin.append_, run_underlying T.und, sizeOf, typeInfo, hi, Builtin.lenOf, Builtin.firstCells, hle, storeCells]
  · obtain ⟨v', w', hr, h2, h3, h4, h5⟩ := run_append_own_at (P := Tryz.prog) w B st ty e i0 _ size bytes T.und hi hz0 hz1 hz2 hzc T.pos v n xs h0 ⟨g, off, none⟩ m c cs hcs
      (fun j u hu => by rw [Addr.add_lit]; exact hc j u hu) h1 (by unfold maxLen; omega) hl hB
    obtain ⟨ad', cap', rfl⟩ := row_form h2
    exact ⟨ad', cap', w', hr, h2, ⟨h3.os, h3.tape, h3.output, h3.size, fun k hk hn => h3.block k hk (fun e => hn e.symm)⟩, h5.imp id (fun e => ⟨_, e, Nat.le_refl _⟩)⟩
/-- the same in a region that draws its order -/
theorem step_gapp_at {w w0 : World} {ops : Array Oper} {o : Oper} {a : Act} {K : Act → World → Prop} {Q : Exit → Act → World → Prop} {E : Prop} (hgd : o.guard = none) (sl x : Operand) {st e size bytes : Nat} (T : ElT st e size bytes)
    (ho : o.op = .call { callee := .builtin .append, args := #[sl, x], argTypes := #[st, st] }) (B : Nat) (v xv : Value) (xs cs : List Value) (n m nm : Nat) (hnm : n + m = nm) (hk : Keep (fun _ => False) w0 w)
    (hs : a.eval sl = v) (hx : a.eval x = xv) (h0 : w0.ownsRow B e size v n xs) (hB : B ≤ w0.heap.size) (hX : GSrc w0 xv m cs) (hcs : cs.length = m * size) (h1 : ∀ u ∈ cs, u.oneCell' = true) (hl : nm ≤ 70368744177) (hby : nm * bytes ≤ 140737488355328)
    (h : ∀ ad' cap' w', w'.ownsRow B e size (.slice ad' nm cap') nm (xs ++ cs) → Keep (fun k => v.ownBlock = some k) w0 w' → LocG w0 v (.slice ad' nm cap') → K (a.put o.dst (.slice ad' nm cap')) w') : if Region.wanted o (yielded ops a.tmps) = true then Oper.wp Tryz.prog o a w K Q else E := by
  subst hnm
  have hwn : Region.wanted o (yielded ops a.tmps) = true := by simp [Region.wanted, hgd]
  rw [if_pos hwn]
  obtain ⟨ad', cap', w', hr, h2, h3, h4⟩ := gapp_at T o.type (hk.ownsRow h0 (fun _ _ h => h)) (Nat.le_trans hB hk.size) (hX.keep _ hk (fun _ _ h => h)) hcs h1 hl hby
  unfold Oper.wp execOp
  simp only [ho, resolve, invoke, builtin, Sem.run_bind, Sem.run_pure, Result.andThen_ok, List.map_toArray, List.map_cons, List.map_nil, hs, hx, hr, Oper.upon]
  exact h ad' cap' w' h2 ((hk.mono (fun _ _ h => h.elim)).trans h3) (h4.imp id (fun ⟨g, e, hg⟩ => ⟨g, e, Nat.le_trans hk.size hg⟩))
end Go.Proofs.YtnldjcoajliciaaGreat
