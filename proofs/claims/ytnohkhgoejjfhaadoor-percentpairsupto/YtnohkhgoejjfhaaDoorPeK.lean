/- Which pairs a text says: the program's Unquery. -/
import Derived.Test.YtnohkhgoejjfhaaDoorPeJ
import Derived.Test.YtnohkhgoejjfhaaDoorPeR
import Derived.Test.YtnohkhgoejjfhaaDoorGApR
import Derived.RangeFuncBox
import Derived.Maps.AppendAt
namespace Go.Proofs.YtnohkhgoejjfhaaDoor
open Go.RowKit Go.Maps Go.Shelf
set_option linter.unusedVariables false
set_option linter.unusedSimpArgs false
attribute [local go_sem] Oper.semAt_some

/-- pairs as cells -/
def pqC (l : List Pq) : List Value := l.flatMap (fun p => [.string ⟨p.1.toArray⟩, .string ⟨p.2.toArray⟩])
theorem pqC_app (a b : List Pq) : pqC (a ++ b) = pqC a ++ pqC b := List.flatMap_append
theorem pqC_len (l : List Pq) : (pqC l).length = l.length * 2 := by
  unfold pqC
  induction l with
  | nil => rfl
  | cons p r ih => rw [List.flatMap_cons, List.length_append, ih]; simp; omega
theorem pqC_cell (l : List Pq) : ∀ u ∈ pqC l, u.oneCell' = true := by
  intro u hu
  obtain ⟨y, hy, hu⟩ := List.mem_flatMap.1 hu
  simp at hu
  rcases hu with rfl | rfl <;> rfl
theorem elPq : ElT 30 32 2 32 := ⟨Tryd.underlying30, ⟨.agg #[.string ⟨#[]⟩, .string ⟨#[]⟩], by kernel_rfl, rfl⟩, by decide⟩
theorem infoPq : (Tryd.prog.info? 32).map (fun i => (i.zero, i.size, i.bytes)) = some (some (.agg #[.string ⟨#[]⟩, .string ⟨#[]⟩]), 2, 32) := by kernel_rfl
theorem rdPqs_snoc (l : List (List UInt8)) : ∀ (acc : List Pq) (x : List UInt8) (p : Pq), rdPqs l = some acc → rdPq x = some p → rdPqs (l ++ [x]) = some (acc ++ [p]) := by
  induction l with
  | nil => intro acc x p h1 h2; rw [rdPqs] at h1; injection h1 with h1; subst h1; simp [rdPqs, h2]
  | cons t r ih =>
    intro acc x p h1 h2
    rw [rdPqs] at h1
    rw [List.cons_append, rdPqs]
    cases hq : rdPq t with
    | none => rw [hq] at h1; cases h1
    | some q =>
      rw [hq] at h1
      cases hr : rdPqs r with
      | none => rw [hr] at h1; cases h1
      | some acc' =>
        rw [hr] at h1
        injection h1 with h1
        subst h1
        simp [ih acc' x p hr h2]
theorem rdPqs_bad (l : List (List UInt8)) (x : List UInt8) (hx : x ∈ l) (h : rdPq x = none) : rdPqs l = none := by
  induction l with
  | nil => cases hx
  | cons t r ih =>
    rw [rdPqs]
    rcases List.mem_cons.1 hx with rfl | hx
    · rw [h]
    · rw [ih hx]; cases rdPq t <;> rfl
theorem rpE_ok (x : List UInt8) (h : (rpE x).2 = 0) : rdPq x = some (rpE x).1 := by
  unfold rpE at *
  cases hr : rdPq x with
  | none => rw [hr] at h; cases h
  | some p => rfl
theorem rpE_bad (x : List UInt8) (h : ¬ (rpE x).2 = 0) : rdPq x = none ∧ rpE x = (([], []), 3) := by
  unfold rpE at *
  cases hr : rdPq x with
  | none => exact ⟨rfl, rfl⟩
  | some p => rw [hr] at h; exact absurd rfl h
theorem keep_putObj (W : World) (l : Nat) (o : Obj) : Keep (· = l) W (W.putObj l o) := ⟨rfl, rfl, rfl, by simp, fun k _ hk => World.putObj_heap_other hk⟩
/-- what Unquery keeps between two rounds: pre has come, s is left -/
structure UqI (w : World) (pre : List ByteArray) (s : ByteArray) (W : World) : Prop where
  r2 : RowIs W w.heap.size [.slice none 0 0] 30
  r3 : RowIs W (w.heap.size + 1) [.int .i64 0] 23
  r4 : ∃ v acc, RowIs W (w.heap.size + 2) [v] 30 ∧ W.ownsRow (w.heap.size + 8) 32 2 v acc.length (pqC acc) ∧ rdPqs (pre.map (·.data.toList)) = some acc
  b0 : RowIs W (w.heap.size + 3) [.string s] 9
  b1 : RowIs W (w.heap.size + 4) [.string ⟨#[38]⟩] 9
  b2 : RowIs W (w.heap.size + 5) [.int .i64 0] 3
  b : Below w.heap.size w W
  sz : w.heap.size + 8 ≤ W.heap.size
/-- what it leaves where a part says no pair -/
structure UqX (w : World) (pre : List ByteArray) (W : World) : Prop where
  r2 : RowIs W w.heap.size [.slice none 0 0] 30
  r3 : RowIs W (w.heap.size + 1) [.int .i64 3] 23
  bad : ∃ x ∈ pre, rdPq x.data.toList = none
  b : Below w.heap.size w W
  sz : w.heap.size + 8 ≤ W.heap.size
section
variable {w W W' : World} {pre : List ByteArray} {s : ByteArray}
theorem UqI.keep (h : UqI w pre s W) {g : Nat} (k : Keep (· = g) W W') (hg : g = w.heap.size + 7 ∨ g = w.heap.size + 6 ∨ w.heap.size + 8 ≤ g) (hn : ∀ v acc, RowIs W (w.heap.size + 2) [v] 30 → W.ownsRow (w.heap.size + 8) 32 2 v acc.length (pqC acc) → ¬ v.ownBlock = some g) : UqI w pre s W' := by
  obtain ⟨v, acc, hv, ho, hr⟩ := h.r4
  have hne := hn v acc hv ho
  exact ⟨h.r2.keep k (by omega), h.r3.keep k (by omega), ⟨v, acc, hv.keep k (by omega), k.ownsRow ho (fun j hj e => hne (by rw [hj, e])), hr⟩, h.b0.keep k (by omega), h.b1.keep k (by omega), h.b2.keep k (by omega), h.b.trans (keep_below k (fun j hj e => by omega) h.b.size), Nat.le_trans h.sz k.size⟩
theorem UqI.put (h : UqI w pre s W) (o : Obj) : UqI w pre s (W.putObj (w.heap.size + 7) o) :=
  h.keep (keep_putObj W _ o) (.inl rfl) (fun v acc _ ho e => by have := ownsRow_ge ho e; omega)
theorem UqX.put (h : UqX w pre W) (o : Obj) : UqX w pre (W.putObj (w.heap.size + 7) o) := by
  have k := keep_putObj W (w.heap.size + 7) o
  exact ⟨h.r2.keep k (by omega), h.r3.keep k (by omega), h.bad, h.b.trans (keep_below k (fun j hj e => by omega) h.b.size), Nat.le_trans h.sz k.size⟩
theorem UqI.next (h : UqI w pre s W) (hb : Below W.heap.size W W') : UqI w pre s W' := by
  have k := hb.keep (fun _ => False)
  obtain ⟨v, acc, hv, ho, hr⟩ := h.r4
  exact ⟨h.r2.keep k (fun h => h), h.r3.keep k (fun h => h), ⟨v, acc, hv.keep k (fun h => h), k.ownsRow ho (fun _ _ h => h), hr⟩, h.b0.keep k (fun h => h), h.b1.keep k (fun h => h), h.b2.keep k (fun h => h), below_on h.b hb, Nat.le_trans h.sz hb.size⟩
theorem UqI.cells (h : UqI w pre s W) : W.cell? ⟨w.heap.size + 3, 0, none⟩ = some (.string s) ∧ W.frozen? ⟨w.heap.size + 3, 0, none⟩ = false ∧ W.cell? ⟨w.heap.size + 3 + 1, 0, none⟩ = some (.string ⟨#[38]⟩) ∧ W.cell? ⟨w.heap.size + 3 + 2, 0, none⟩ = some (.int .i64 0) :=
  ⟨h.b0.cellAt rfl, h.b0.frozen, h.b1.cellAt rfl, h.b2.cellAt rfl⟩
theorem UqI.store (h : UqI w pre s W) (s' : ByteArray) : UqI w pre s' (W.setCell ⟨w.heap.size + 3, 0, none⟩ (.string s')) := by
  have k := keep_setCell W (w.heap.size + 3) 0 (.string s')
  obtain ⟨v, acc, hv, ho, hr⟩ := h.r4
  exact ⟨h.r2.keep k (by omega), h.r3.keep k (by omega), ⟨v, acc, hv.keep k (by omega), k.ownsRow ho (fun j hj e => by have := ownsRow_ge ho hj; omega), hr⟩, h.b0.set 0 _, h.b1.keep k (by omega), h.b2.keep k (by omega), h.b.trans (keep_below k (fun j hj e => by omega) h.b.size), Nat.le_trans h.sz k.size⟩
end
set_option maxRecDepth 100000 in
set_option maxHeartbeats 2000000 in
theorem splitSeq_any (t : ByteArray) (b : UInt8) (w : World) : Calls Tryd.prog 34 #[.string t, .string ⟨#[b]⟩] w fun e w' => e = .returned (.func (.func 57) #[] #[.pointer (some ⟨w.heap.size + 1, 0, none⟩), .pointer (some ⟨w.heap.size, 0, none⟩), .pointer (some ⟨w.heap.size + 2, 0, none⟩)]) ∧ w' = ((w.alloc (.cells #[.string t] 9)).alloc (.cells #[.string ⟨#[b]⟩] 9)).alloc (.cells #[.int .i64 0] 3) := by
  have Q : Hid (Calls Tryd.prog 49 #[.string t, .string ⟨#[b]⟩, .int .i64 0] w fun e w' => e = .returned (.func (.func 57) #[] #[.pointer (some ⟨w.heap.size + 1, 0, none⟩), .pointer (some ⟨w.heap.size, 0, none⟩), .pointer (some ⟨w.heap.size + 2, 0, none⟩)]) ∧ w' = ((w.alloc (.cells #[.string t] 9)).alloc (.cells #[.string ⟨#[b]⟩] 9)).alloc (.cells #[.int .i64 0] 3)) := by
    show Calls _ _ _ _ _
    generalize (⟨#[b]⟩ : ByteArray) = sep
    go_enter Tryd.func49, Tryd.ntmps49
    go_wp2
    go_ret
    exact ⟨rfl, rfl⟩
  generalize (⟨#[b]⟩ : ByteArray) = sep at *
  go_enter Tryd.func34, Tryd.ntmps34
  go_wp2_with fail
  refine Q.out.mono ?_
  rintro e w1 ⟨rfl, rfl⟩
  go_wp2
  go_ret
  exact ⟨rfl, rfl⟩
/-- what a call of Unquery gives: the pairs in a row of its own, and the error -/
def GiveU (w : World) (l : List Pq) (n : Nat) (e : Ending) (w' : World) : Prop := ∃ ad cap, e = .returned (.tuple #[.slice ad l.length cap, .int .i64 n]) ∧ w'.ownsRow w.heap.size 32 2 (.slice ad l.length cap) l.length (pqC l) ∧ Below w.heap.size w w'
theorem own_lower {w : World} {B B' e s n : Nat} {v : Value} {xs : List Value} (h : w.ownsRow B e s v n xs) (hB : B' ≤ B) : w.ownsRow B' e s v n xs := by
  obtain ⟨h1, h2⟩ := h
  refine ⟨h1, ?_⟩
  rcases h2 with h2 | ⟨g, cap, cur, e1, e2, r⟩
  · exact .inl h2
  · exact .inr ⟨g, cap, cur, e1, Nat.le_trans hB e2, r⟩
theorem ret_cc {fn : Func} {p u : Tmp} {ty tu : TypeId} (h : fn.results = #[.cell p ty, .cell u tu]) (tmps : Array Value) (w : World) (g1 g2 : Nat) (x y : Value)
    (hp : tmps.getD p undef = .pointer (some ⟨g1, 0, none⟩)) (hu : tmps.getD u undef = .pointer (some ⟨g2, 0, none⟩)) (h1 : (loadVar ty ⟨g1, 0, none⟩).run Tryd.prog w = .ok x w) (h2 : (loadVar tu ⟨g2, 0, none⟩).run Tryd.prog w = .ok y w) :
    (results fn tmps).run Tryd.prog w = .ok (.tuple #[x, y]) w := by
  have hp' : tmps[p]?.getD undef = .pointer (some ⟨g1, 0, none⟩) := by simpa using hp
  have hu' : tmps[u]?.getD undef = .pointer (some ⟨g2, 0, none⟩) := by simpa using hu
  simp only [results, h]
  simp [Sem.run_bind, Result.andThen, asAddr, hp', hu', h1, h2]
theorem ld_sl {w : World} {g : Nat} {ad : Option Addr} {n cap : Nat} (h : RowIs w g [.slice ad n cap] 30) : (loadVar 30 ⟨g, 0, none⟩).run Tryd.prog w = .ok (.slice ad n cap) w := by
  have c0 := h.cellAt (o := 0) rfl
  go_simp
theorem ld_er {w : World} {g : Nat} {n : Int} (h : RowIs w g [.int .i64 n] 23) : (loadVar 23 ⟨g, 0, none⟩).run Tryd.prog w = .ok (.int .i64 n) w := by
  have c0 := h.cellAt (o := 0) rfl
  go_simp
theorem own_nilP (w : World) (B : Nat) : w.ownsRow B 32 2 (.slice none 0 0) 0 (pqC []) := ⟨rfl, .inl ⟨rfl, rfl⟩⟩
/-- the two results' boxes, made -/
theorem two_new (w : World) (n : Int) : RowIs ((w.alloc (.cells #[.slice none 0 0] 30)).alloc (.cells #[.int .i64 n] 23)) w.heap.size [.slice none 0 0] 30 ∧ RowIs ((w.alloc (.cells #[.slice none 0 0] 30)).alloc (.cells #[.int .i64 n] 23)) (w.heap.size + 1) [.int .i64 n] 23 ∧ Below w.heap.size w ((w.alloc (.cells #[.slice none 0 0] 30)).alloc (.cells #[.int .i64 n] 23)) :=
  ⟨row_old (srow w _ _) _, row_last _ _ _ _ (by simp), below_al (below_al (Below.refl _ _) _) _⟩
theorem unT_nil (t : List UInt8) (h : t = []) : unT t = ([], 0) := by unfold unT; rw [if_pos h]
theorem unT_many (t : List UInt8) (h : ¬ t = []) (hc : 16 ≤ Lib.countByte t 38) : unT t = ([], 131) := by unfold unT; rw [if_neg h, if_pos (by rw [count_split]; omega)]
theorem unT_bad (t : List UInt8) (h : ¬ t = []) (hc : ¬ 16 ≤ Lib.countByte t 38) (hb : rdPqs (splitB 38 t) = none) : unT t = ([], 3) := by unfold unT; rw [if_neg h, if_neg (by rw [count_split]; omega), hb]
theorem unT_ok (t : List UInt8) (h : ¬ t = []) (hc : ¬ 16 ≤ Lib.countByte t 38) (l : List Pq) (hb : rdPqs (splitB 38 t) = some l) : unT t = (l, 0) := by unfold unT; rw [if_neg h, if_neg (by rw [count_split]; omega), hb]
theorem ptsB_map (b : UInt8) (t : ByteArray) : (ptsB b t).map (·.data.toList) = splitB b t.data.toList := by
  unfold ptsB; rw [List.map_map]; simp [Function.comp_def]

theorem UqI.fin {w W : World} {pre : List ByteArray} {s : ByteArray} (h : UqI w pre s W) : ∃ (ad : Option Addr) (cap : Nat) (acc : List Pq), rdPqs (pre.map (·.data.toList)) = some acc ∧ W.cell? ⟨w.heap.size + 2, 0, none⟩ = some (.slice ad acc.length cap) ∧
    (W.cell? ⟨w.heap.size, 0, none⟩ = some (.slice none 0 0) ∧ W.frozen? ⟨w.heap.size, 0, none⟩ = false ∧ W.cell? ⟨w.heap.size + 1, 0, none⟩ = some (.int .i64 0) ∧ W.frozen? ⟨w.heap.size + 1, 0, none⟩ = false) ∧
    ((W.setCell ⟨w.heap.size, 0, none⟩ (.slice ad acc.length cap)).cell? ⟨w.heap.size + 1, 0, none⟩ = some (.int .i64 0) ∧ (W.setCell ⟨w.heap.size, 0, none⟩ (.slice ad acc.length cap)).frozen? ⟨w.heap.size + 1, 0, none⟩ = false) ∧
    ∀ (o o' : Obj), W.heap[w.heap.size + 6]? = some o → ((W.setCell ⟨w.heap.size, 0, none⟩ (.slice ad acc.length cap)).setCell ⟨w.heap.size + 1, 0, none⟩ (.int .i64 0)).heap[w.heap.size + 6]? = some o ∧
      RowIs (((W.setCell ⟨w.heap.size, 0, none⟩ (.slice ad acc.length cap)).setCell ⟨w.heap.size + 1, 0, none⟩ (.int .i64 0)).putObj (w.heap.size + 6) o') w.heap.size [.slice ad acc.length cap] 30 ∧
      RowIs (((W.setCell ⟨w.heap.size, 0, none⟩ (.slice ad acc.length cap)).setCell ⟨w.heap.size + 1, 0, none⟩ (.int .i64 0)).putObj (w.heap.size + 6) o') (w.heap.size + 1) [.int .i64 0] 23 ∧
      (((W.setCell ⟨w.heap.size, 0, none⟩ (.slice ad acc.length cap)).setCell ⟨w.heap.size + 1, 0, none⟩ (.int .i64 0)).putObj (w.heap.size + 6) o').ownsRow w.heap.size 32 2 (.slice ad acc.length cap) acc.length (pqC acc) ∧
      Below w.heap.size w (((W.setCell ⟨w.heap.size, 0, none⟩ (.slice ad acc.length cap)).setCell ⟨w.heap.size + 1, 0, none⟩ (.int .i64 0)).putObj (w.heap.size + 6) o') := by
  obtain ⟨v, acc, hv, ho, hr⟩ := h.r4
  obtain ⟨ad, cap, rfl⟩ := row_form ho
  have k1 := keep_setCell W w.heap.size 0 (.slice ad acc.length cap)
  have k2 := keep_setCell (W.setCell ⟨w.heap.size, 0, none⟩ (.slice ad acc.length cap)) (w.heap.size + 1) 0 (.int .i64 0)
  have r3 := h.r3.keep k1 (by omega)
  refine ⟨ad, cap, acc, hr, hv.cellAt rfl, ⟨h.r2.cellAt rfl, h.r2.frozen, h.r3.cellAt rfl, h.r3.frozen⟩, ⟨r3.cellAt rfl, r3.frozen⟩, fun o o' hD => ?_⟩
  have k3 := keep_putObj ((W.setCell ⟨w.heap.size, 0, none⟩ (.slice ad acc.length cap)).setCell ⟨w.heap.size + 1, 0, none⟩ (.int .i64 0)) (w.heap.size + 6) o'
  have hs := h.sz
  have z1 := k1.size
  have z2 := k2.size
  refine ⟨(k2.block _ (by omega) (by omega)).trans ((k1.block _ (by omega) (by omega)).trans hD), ((h.r2.set 0 _).keep k2 (by omega)).keep k3 (by omega), (r3.set 0 _).keep k3 (by omega), own_lower (k3.ownsRow (k2.ownsRow (k1.ownsRow ho (fun j hj e => ?_)) (fun j hj e => ?_)) (fun j hj e => ?_)) (by omega : w.heap.size ≤ w.heap.size + 8), ((h.b.trans (keep_below k1 (fun j hj e => by omega) h.b.size)).trans (keep_below k2 (fun j hj e => by omega) (Nat.le_trans h.b.size z1))).trans (keep_below k3 (fun j hj e => by omega) (Nat.le_trans h.b.size (Nat.le_trans z1 z2)))⟩
  all_goals (have := ownsRow_ge ho hj; omega)
theorem UqX.fin {w W : World} {pre : List ByteArray} (h : UqX w pre W) (o' : Obj) : RowIs (W.putObj (w.heap.size + 6) o') w.heap.size [.slice none 0 0] 30 ∧ RowIs (W.putObj (w.heap.size + 6) o') (w.heap.size + 1) [.int .i64 3] 23 ∧ Below w.heap.size w (W.putObj (w.heap.size + 6) o') := by
  have k := keep_putObj W (w.heap.size + 6) o'
  exact ⟨h.r2.keep k (by omega), h.r3.keep k (by omega), h.b.trans (keep_below k (fun j hj e => by omega) h.b.size)⟩
theorem UqI.cc {w W : World} {pre : List ByteArray} {s : ByteArray} (h : UqI w pre s W) : W.cell? ⟨w.heap.size, 0, none⟩ = some (.slice none 0 0) ∧ W.frozen? ⟨w.heap.size, 0, none⟩ = false ∧ W.cell? ⟨w.heap.size + 1, 0, none⟩ = some (.int .i64 0) ∧ W.frozen? ⟨w.heap.size + 1, 0, none⟩ = false := ⟨h.r2.cellAt rfl, h.r2.frozen, h.r3.cellAt rfl, h.r3.frozen⟩
theorem keep_grown {W w' : World} {row : Option Nat} (h : W.grownBy w' row) : Keep (fun k => row = some k) W w' := ⟨h.os, h.tape, h.output, h.size, fun k hk hn => h.block k hk (fun e => hn e.symm)⟩
theorem UqI.err {w W : World} {pre : List ByteArray} {s : ByteArray} (h : UqI w pre s W) (x : ByteArray) (hx : rdPq x.data.toList = none) :
    ((W.setCell ⟨w.heap.size, 0, none⟩ (.slice none 0 0)).cell? ⟨w.heap.size + 1, 0, none⟩ = some (.int .i64 0) ∧ (W.setCell ⟨w.heap.size, 0, none⟩ (.slice none 0 0)).frozen? ⟨w.heap.size + 1, 0, none⟩ = false) ∧
    UqX w (pre ++ [x]) ((W.setCell ⟨w.heap.size, 0, none⟩ (.slice none 0 0)).setCell ⟨w.heap.size + 1, 0, none⟩ (.int .i64 3)) ∧
    ∀ k, w.heap.size + 6 ≤ k → k < W.heap.size → ((W.setCell ⟨w.heap.size, 0, none⟩ (.slice none 0 0)).setCell ⟨w.heap.size + 1, 0, none⟩ (.int .i64 3)).heap[k]? = W.heap[k]? := by
  have k1 := keep_setCell W w.heap.size 0 (.slice none 0 0)
  have k2 := keep_setCell (W.setCell ⟨w.heap.size, 0, none⟩ (.slice none 0 0)) (w.heap.size + 1) 0 (.int .i64 3)
  have r3 := h.r3.keep k1 (by omega)
  have z1 := k1.size
  have z2 := k2.size
  have hs := h.sz
  refine ⟨⟨r3.cellAt rfl, r3.frozen⟩, ⟨(h.r2.set 0 _).keep k2 (by omega), r3.set 0 _, ⟨x, by simp, hx⟩, (h.b.trans (keep_below k1 (fun j hj e => by omega) h.b.size)).trans (keep_below k2 (fun j hj e => by omega) (Nat.le_trans h.b.size z1)), by omega⟩, fun k hk hl => (k2.block k (by omega) (by omega)).trans (k1.block k hl (by omega))⟩
theorem UqI.grow {w W w' : World} {pre : List ByteArray} {s x : ByteArray} {v v' : Value} {acc : List Pq} {p : Pq} (h : UqI w pre s W) (hv : RowIs W (w.heap.size + 2) [v] 30) (ho : W.ownsRow (w.heap.size + 8) 32 2 v acc.length (pqC acc)) (hr : rdPqs (pre.map (·.data.toList)) = some acc) (hp : rdPq x.data.toList = some p)
    (ho' : w'.ownsRow (w.heap.size + 8) 32 2 v' (acc.length + 1) (pqC acc ++ pqC [p])) (hk : Keep (fun k => v.ownBlock = some k) W w') :
    (w'.cell? ⟨w.heap.size + 2, 0, none⟩ = some v ∧ w'.frozen? ⟨w.heap.size + 2, 0, none⟩ = false) ∧ UqI w (pre ++ [x]) s (w'.setCell ⟨w.heap.size + 2, 0, none⟩ v') ∧ ∀ k, k < w.heap.size + 8 → w.heap.size + 6 ≤ k → (w'.setCell ⟨w.heap.size + 2, 0, none⟩ v').heap[k]? = W.heap[k]? := by
  have hn : ∀ g, g < w.heap.size + 8 → ¬ v.ownBlock = some g := fun g hg e => by have := ownsRow_ge ho e; omega
  have kS := keep_setCell w' (w.heap.size + 2) 0 v'
  have hs := h.sz
  have hz := hk.size
  have hv2 := hv.keep hk (hn _ (by omega))
  have g : ∀ {g : Nat} {cs : List Value} {t : TypeId}, RowIs W g cs t → g < w.heap.size + 8 → g ≠ w.heap.size + 2 → RowIs (w'.setCell ⟨w.heap.size + 2, 0, none⟩ v') g cs t := fun hr hg hne => (hr.keep hk (hn _ hg)).keep kS hne
  refine ⟨⟨hv2.cellAt rfl, hv2.frozen⟩, ⟨g h.r2 (by omega) (by omega), g h.r3 (by omega) (by omega), ⟨v', acc ++ [p], hv2.set 0 v', ?_, ?_⟩, g h.b0 (by omega) (by omega), g h.b1 (by omega) (by omega), g h.b2 (by omega) (by omega), (h.b.trans (keep_below hk (fun j hj => hn j (by omega)) h.b.size)).trans (keep_below kS (fun j hj e => by omega) (Nat.le_trans h.b.size hz)), Nat.le_trans hs (Nat.le_trans hz kS.size)⟩, fun k h1 h2 => (kS.block k (by omega) (by omega)).trans (hk.block k (by omega) (hn k h1))⟩
  · rw [pqC_app, List.length_append]
    exact kS.ownsRow ho' (fun j hj e => by have := ownsRow_ge ho' hj; omega)
  · rw [List.map_append]
    exact rdPqs_snoc _ acc _ p hr hp
theorem uq_begin (w : World) (t : ByteArray) (o : Obj) : UqI w [] t (((((((((w.alloc (.cells #[.slice none 0 0] 30)).alloc (.cells #[.int .i64 0] 23)).alloc (.cells #[.slice none 0 0] 30)).alloc (.cells #[.string t] 9)).alloc (.cells #[.string ⟨#[38]⟩] 9)).alloc (.cells #[.int .i64 0] 3))).alloc (.deferred (some []))).alloc o) :=
  ⟨row_old (row_old (row_old (row_old (row_old (row_old (row_old (srow w _ _) _) _) _) _) _) _) _,
   row_old (row_old (row_old (row_old (row_old (row_old (row_last _ _ _ _ (by simp)) _) _) _) _) _) _,
   ⟨.slice none 0 0, [], row_old (row_old (row_old (row_old (row_old (row_last _ _ _ _ (by simp)) _) _) _) _) _, own_nilP _ _, rfl⟩,
   row_old (row_old (row_old (row_old (row_last _ _ _ _ (by simp)) _) _) _) _,
   row_old (row_old (row_old (row_last _ _ _ _ (by simp)) _) _) _,
   row_old (row_old (row_last _ _ _ _ (by simp)) _) _,
   below_al (below_al (below_al (below_al (below_al (below_al (below_al (below_al (Below.refl _ _) _) _) _) _) _) _) _) _, by simp⟩
set_option maxRecDepth 100000 in
set_option maxHeartbeats 4000000 in
theorem unquery_any (t : ByteArray) (w : World) (hs : t.size ≤ 1048576) : Calls Tryd.prog 18 #[.string t] w (GiveU w (unT t.data.toList).1 (unT t.data.toList).2) := by
  have CO := hid (fun W => count_any t 38 W)
  have SQ := hid (fun W => splitSeq_any t 38 W)
  have hb := emp_b t.data.toList
  rw [ba_id] at hb
  refine (callsIn_wide (n := 3)).1 ?_
  refine callsIn_of_wp_marks Tryd.func18 rfl trivial ?_ rfl
  simp only [Tryd.ntmps18, List.size_toArray, List.length_cons, List.length_nil, Nat.reduceAdd, Nat.reduceSub, Array.replicate_succ, Array.replicate_zero, List.push_toArray, List.append_toArray, List.nil_append, List.cons_append]
  by_cases he : t.data.toList = []
  · have hb2 : (t.toList == []) = true := by rw [hb]; exact decide_eq_true he
    have HU := hid (unT_nil _ he)
    clear hb he CO SQ
    gi_wp2
    obtain ⟨r2, r3, b⟩ := two_new w 0
    exact ⟨_, ret_cc rfl _ _ w.heap.size (w.heap.size + 1) (.slice none 0 0) (.int .i64 0) rfl rfl (ld_sl r2) (ld_er r3), by rw [HU.out]; exact ⟨none, 0, rfl, own_nilP _ _, b⟩⟩
  · have hb2 : (t.toList == []) = false := by rw [hb]; exact decide_eq_false he
    clear hb
    have HE := hid he
    by_cases hc : 16 ≤ Lib.countByte t.data.toList 38
    · have HU := hid (unT_many _ he hc)
      have hd : (16 : Int) ≤ ((Lib.countByte t.data.toList 38 : Nat) : Int) := by omega
      generalize Lib.countByte t.data.toList 38 = cn at *
      clear he hc SQ
      gi_wp2
      refine ⟨trivial, ?_⟩
      refine (callsIn_wide.2 (CO.out _)).mono ?_
      rintro e w1 ⟨rfl, rfl⟩
      gi_wp2
      obtain ⟨r2, r3, b⟩ := two_new w 131
      exact ⟨_, ret_cc rfl _ _ w.heap.size (w.heap.size + 1) (.slice none 0 0) (.int .i64 131) rfl rfl (ld_sl r2) (ld_er r3), by rw [HU.out]; exact ⟨none, 0, rfl, own_nilP _ _, b⟩⟩
    · have hd : ¬ (16 : Int) ≤ ((Lib.countByte t.data.toList 38 : Nat) : Int) := by omega
      have HUb := hid (unT_bad _ he hc)
      have HUo := hid (unT_ok _ he hc)
      generalize Lib.countByte t.data.toList 38 = cn at *
      clear he hc HE
      gi_wp2
      refine ⟨trivial, ?_⟩
      refine (callsIn_wide.2 (CO.out _)).mono ?_
      rintro e w1 ⟨rfl, rfl⟩
      gi_wp2
      refine ⟨trivial, ?_⟩
      refine (callsIn_wide.2 (SQ.out _)).mono ?_
      rintro e w1 ⟨rfl, rfl⟩
      clear CO SQ
      gi_wp2
      have RP := hid (fun (x : ByteArray) (hx : x.size ≤ 1048576) W => readPair_any x W hx)
      obtain ⟨W0, hW0, hI0, hsz⟩ : ∃ W0 : World, ((((((w.alloc (.cells #[.slice none 0 0] 30)).alloc (.cells #[.int .i64 0] 23)).alloc (.cells #[.slice none 0 0] 30)).alloc (.cells #[.string t] 9)).alloc (.cells #[.string ⟨#[38]⟩] 9)).alloc (.cells #[.int .i64 0] 3)) = W0 ∧ (∀ o, UqI w [] t ((W0.alloc (.deferred (some []))).alloc o)) ∧ W0.heap.size = w.heap.size + 6 := ⟨_, rfl, uq_begin w t, by simp⟩
      rw [hW0]
      have HI0 := hid hI0
      clear hW0 hI0
      refine range_split 38 3 (w.heap.size + 3) (by omega) rfl (by omega) (UqI w) (UqX w) (fun x => { tmps := #[.string t, undef, .pointer (some ⟨w.heap.size, 0, none⟩), .pointer (some ⟨w.heap.size + 1, 0, none⟩), .pointer (some ⟨w.heap.size + 2, 0, none⟩), .string x, undef, undef, .string t, .bool false, .string t, .int .i64 (cn : Int), .bool (decide ((16 : Int) ≤ (cn : Int))), .string t, .func (.func 57) #[] #[.pointer (some ⟨w.heap.size + 3 + 1, 0, none⟩), .pointer (some ⟨w.heap.size + 3, 0, none⟩), .pointer (some ⟨w.heap.size + 3 + 2, 0, none⟩)], .string x, undef, undef, undef, undef, undef, undef, undef, undef, undef, undef, undef, undef, undef], defers := [] }) t hs (fun pre s W h => h.cells) (fun pre s s' W h => h.store s') HI0.out (fun pre s W o h => by rw [hsz]; exact h.put o) (fun pre W o h => by rw [hsz]; exact h.put o) ?assign ?body ?done ?stop
      case assign =>
        intro l x W K hK
        gi_wp2
        exact hK
      case body =>
        intro l pre x s W hx hpx hlt hi
        clear HUb HUo HI0
        have HLN : Hid (pre.length ≤ 1048577) := by
          have h1 := hpx.length_le
          have h2 : (ptsB 38 t).length = Lib.countByte t.data.toList 38 + 1 := by rw [← count_split]; unfold ptsB; simp
          have h3 : Lib.countByte t.data.toList 38 ≤ t.size := by unfold Lib.countByte; have := List.count_le_length (a := (38 : UInt8)) (l := t.data.toList); simpa using this
          show _ ≤ _
          simp at h1; omega
        clear hpx
        have HI := hid hi
        have Q := hid (RP.out x hx W)
        have HOK := hid (rpE_ok x.data.toList)
        have HBD := hid (rpE_bad x.data.toList)
        clear RP hi hx
        generalize rpE x.data.toList = RR at *
        obtain ⟨⟨pn, pv⟩, en⟩ := RR
        unfold pqV at Q
        simp only at *
        rw [hsz]
        rw [hsz] at hlt
        clear hsz
        gi_wp2
        refine ⟨trivial, ?_⟩
        refine (CallsIn.inRound l (callsIn_wide.2 Q.out)).mono ?_
        rintro e w1 ⟨rfl, b1⟩
        have H1 := hid (HI.out.next b1)
        have HKA : Hid (∀ (o : Obj) k, k < W.heap.size → (w1.alloc o).heap[k]? = W.heap[k]? ∧ k < (w1.alloc o).heap.size) := fun o k hk => ⟨(below_al b1 o).block k hk, Nat.lt_of_lt_of_le hk (below_al b1 o).size⟩
        have HKB : Hid (∀ (o o' : Obj) k, k < W.heap.size → ((w1.alloc o).alloc o').heap[k]? = W.heap[k]? ∧ k < ((w1.alloc o).alloc o').heap.size) := fun o o' k hk => ⟨(below_al (below_al b1 o) o').block k hk, Nat.lt_of_lt_of_le hk (below_al (below_al b1 o) o').size⟩
        have HLT := hid hlt
        clear HI Q b1 hlt
        by_cases h1 : en = 0
        · have hb3 : ((en : Int) != 0) = false := by rw [h1]; rfl
          have HP := hid (HOK.out h1)
          clear h1 HBD HOK
          have H2 := hid ((H1.out.next (below_al (Below.refl _ _) (.cells #[.string ⟨pn.toArray⟩, .string ⟨pv.toArray⟩] 32))).next (below_al (Below.refl _ _) (.cells #[.string ⟨pn.toArray⟩, .string ⟨pv.toArray⟩] 32)))
          obtain ⟨v, acc, hv1, ho1, hr⟩ := H1.out.r4
          obtain ⟨ad, cap, rfl⟩ := row_form ho1
          have hv := row_old (row_old hv1 (.cells #[.string ⟨pn.toArray⟩, .string ⟨pv.toArray⟩] 32)) (.cells #[.string ⟨pn.toArray⟩, .string ⟨pv.toArray⟩] 32)
          have ho := (keep_alloc (fun _ => False) (w1.alloc (.cells #[.string ⟨pn.toArray⟩, .string ⟨pv.toArray⟩] 32)) (.cells #[.string ⟨pn.toArray⟩, .string ⟨pv.toArray⟩] 32)).ownsRow ((keep_alloc (fun _ => False) w1 (.cells #[.string ⟨pn.toArray⟩, .string ⟨pv.toArray⟩] 32)).ownsRow ho1 (fun _ _ h => h)) (fun _ _ h => h)
          have c4 := (row_old hv1 (.cells #[.string ⟨pn.toArray⟩, .string ⟨pv.toArray⟩] 32)).cellAt (o := 0) rfl
          clear hv1 ho1
          obtain ⟨i0, hi0, hz0, hz1, hz2⟩ := info_parts infoPq
          have HO := hid ho
          have HV := hid hv
          have HLA : Hid (acc.length ≤ 1048577) := by
            have h1 := (rdPqs_ne _ _ hr).1
            have h2 := HLN.out
            show _ ≤ _
            simp at h1; omega
          have HR := hid hr
          have HX : Hid (∀ j u, (pqC [(pn, pv)])[j]? = some u → ((w1.alloc (.cells #[.string ⟨pn.toArray⟩, .string ⟨pv.toArray⟩] 32)).alloc (.cells #[.string ⟨pn.toArray⟩, .string ⟨pv.toArray⟩] 32)).cell? ((⟨w1.heap.size + 1, 0, none⟩ : Addr).add j) = some u) := fun j u hu => by
            have r := row_last (w1.alloc (.cells #[.string ⟨pn.toArray⟩, .string ⟨pv.toArray⟩] 32)) [.string ⟨pn.toArray⟩, .string ⟨pv.toArray⟩] 32 (w1.heap.size + 1) (by simp)
            rw [Addr.add_lit, Nat.zero_add]
            exact r.cellAt hu
          have HB1 : Hid (acc.length + 1 ≤ maxLen) := by have := HLA.out; show _ ≤ _; unfold maxLen; omega
          have HB2 : Hid ((acc.length + 1) * 32 ≤ 140737488355328) := by have := HLA.out; show _ ≤ _; omega
          have HB3 := hid H2.out.sz
          clear ho hv hr H1
          gi_wp2_with (gi_at_builtin; refine wpListIn_append_own _ rfl _ _ 30 rfl (w.heap.size + 8) 32 i0 _ 2 32 Tryd.underlying30 hi0 hz0 hz1 hz2 rfl (by decide) _ _ _ rfl HO.out ⟨w1.heap.size + 1, 0, none⟩ 1 1 (pqC [(pn, pv)]) rfl rfl HX.out (pqC_cell _) HB1.out HB2.out HB3.out ?_; intro v' w' hown' hgrow _; obtain ⟨g', cap', rfl⟩ := ownsRow_succ hown'; obtain ⟨⟨e1, e2⟩, q1, q2⟩ := H2.out.grow HV.out HO.out HR.out HP.out hown' (keep_grown hgrow); have Q1 := hid q1; have Q2 := hid q2; clear q1 q2 hown' hgrow)
          have h5 := HLT.out
          exact ⟨⟨(Q2.out _ (by omega) (by omega)).trans (HKB.out _ _ _ (by omega)).1, (Q2.out _ (by omega) (by omega)).trans (HKB.out _ _ _ (by omega)).1⟩, Q1.out⟩
        · have hb3 : ((en : Int) != 0) = true := by rw [bne_iff_ne]; omega
          have H3 := hid (HBD.out h1)
          clear h1 HBD HOK
          have H2 := hid (H1.out.next (below_al (Below.refl _ _) (.cells #[.string ⟨pn.toArray⟩, .string ⟨pv.toArray⟩] 32)))
          obtain ⟨c2, f2, c3, f3⟩ := H2.out.cc
          obtain ⟨⟨d3, g3⟩, q1, q2⟩ := H2.out.err x H3.out.1
          have Q1 := hid q1
          have Q2 := hid q2
          have e3 : en = 3 := by have := H3.out.2; simp at this; exact this.2
          subst e3
          clear q1 q2 H2 H1
          gi_wp2
          have h5 := HLT.out
          exact ⟨⟨(Q2.out _ (by omega) (HKA.out _ _ (by omega)).2).trans (HKA.out _ _ (by omega)).1, (Q2.out _ (by omega) (HKA.out _ _ (by omega)).2).trans (HKA.out _ _ (by omega)).1⟩, Q1.out⟩
      case done =>
        intro s W hi hK
        obtain ⟨ad, cap, acc, hr, c4, ⟨c2, f2, c3, f3⟩, ⟨d3, g3⟩, hF⟩ := hi.fin
        rw [hsz] at hK
        have HF := hid (hF _ (.deferred none) hK)
        have HU := hid (HUo.out acc (by rw [← ptsB_map]; exact hr))
        clear hF hK hi hr HI0 RP HUb HUo
        unfold mkD
        rw [hsz]
        clear hsz
        gi_wp2
        obtain ⟨q1, q2, q3, q4, q5⟩ := HF.out
        refine ⟨by simp, .inl ⟨_, _, rfl, run_takeDeferred q1, ?_⟩⟩
        exact ⟨_, ret_cc rfl _ _ w.heap.size (w.heap.size + 1) (.slice ad acc.length cap) (.int .i64 0) rfl rfl (ld_sl q2) (ld_er q3), by rw [HU.out]; exact ⟨ad, cap, rfl, q4, q5⟩⟩
      case stop =>
        intro pre W hp hi hK
        obtain ⟨q2, q3, q5⟩ := hi.fin (.deferred none)
        rw [hsz] at hK
        obtain ⟨x, hx, hbad⟩ := hi.bad
        have HU := hid (HUb.out (rdPqs_bad _ x.data.toList (by rw [← ptsB_map]; exact List.mem_map_of_mem (hp.subset hx)) hbad))
        have HK := hid hK
        have H2 := hid q2
        have H3 := hid q3
        have H5 := hid q5
        clear hi hK hp HI0 RP HUb HUo hbad hx q2 q3 q5
        unfold mkD
        rw [hsz]
        clear hsz
        gi_wp2
        refine ⟨by simp, .inl ⟨_, _, rfl, run_takeDeferred HK.out, ?_⟩⟩
        exact ⟨_, ret_cc rfl _ _ w.heap.size (w.heap.size + 1) (.slice none 0 0) (.int .i64 3) rfl rfl (ld_sl H2.out) (ld_er H3.out), by rw [HU.out]; exact ⟨none, 0, rfl, own_nilP _ _, H5.out⟩⟩
end Go.Proofs.YtnohkhgoejjfhaaDoor
