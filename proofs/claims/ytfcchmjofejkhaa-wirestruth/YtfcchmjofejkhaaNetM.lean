/- A net in memory, and what it stands for. -/
import Derived.Test.YtfcchmjofejkhaaGApp
import Derived.Test.YtfcchmjofejkhaaClone
import Derived.Test.YtfcchmjofejkhaaHidM
import Derived.Laws.ResultCell
import Derived.Deep.CutRange
import Derived.Deep.RegionLaw
import Derived.Deep.RegionHeld3
namespace Go.Proofs.Ytfcchmjofejkhaa
open Go.RowKit Go.Maps
set_option linter.unusedVariables false
set_option linter.unusedSimpArgs false

/-- a packet -/
structure Pk where
  fr : Int
  tt : Int
  s : ByteArray
def pkC (x : Pk) : List Value := [.int .i64 x.fr, .int .i64 x.tt, .string x.s]
def pkV (x : Pk) : Value := .agg #[.int .i64 x.fr, .int .i64 x.tt, .string x.s]
def pks (l : List Pk) : List Value := l.flatMap pkC
theorem pks_nil : pks [] = [] := rfl
theorem pks_cons (x : Pk) (l : List Pk) : pks (x :: l) = pkC x ++ pks l := rfl
theorem pks_app (a b : List Pk) : pks (a ++ b) = pks a ++ pks b := by simp [pks]
theorem pks_len (l : List Pk) : (pks l).length = l.length * 3 := by
  induction l with
  | nil => rfl
  | cons x r ih => rw [pks_cons, List.length_append, ih]; simp [pkC]; omega
theorem pks_take (l : List Pk) : ∀ k, (pks l).take (k * 3) = pks (l.take k) := by
  induction l with
  | nil => intro k; simp [pks]
  | cons x r ih =>
    intro k
    cases k with
    | zero => simp [pks]
    | succ k =>
      rw [pks_cons, List.take_succ_cons, pks_cons, ← ih k, show (k + 1) * 3 = (pkC x).length + k * 3 by simp [pkC]; omega, List.take_length_add_append]
theorem pks_drop (l : List Pk) : ∀ k, (pks l).drop (k * 3) = pks (l.drop k) := by
  induction l with
  | nil => intro k; simp [pks]
  | cons x r ih =>
    intro k
    cases k with
    | zero => simp [pks]
    | succ k =>
      rw [pks_cons, List.drop_succ_cons, ← ih k, show (k + 1) * 3 = (pkC x).length + k * 3 by simp [pkC]; omega, List.drop_length_add_append]
theorem pks_get : ∀ (l : List Pk) (i : Nat) (h : i < l.length) (j : Nat), j < 3 → (pks l)[i * 3 + j]? = (pkC l[i])[j]?
  | x :: r, 0, _, j, hj => by
    rw [pks_cons, List.getElem?_append_left (by simp [pkC]; omega)]
    simp
  | x :: r, i + 1, h, j, hj => by
    rw [pks_cons, List.getElem?_append_right (by simp [pkC]; omega), show (i + 1) * 3 + j - (pkC x).length = i * 3 + j by simp [pkC]; omega]
    exact pks_get r i (by simpa using h) j hj
theorem pks_one (l : List Pk) : ∀ u ∈ pks l, u.oneCell' = true := by
  intro u hu
  obtain ⟨x, _, hx⟩ := List.mem_flatMap.1 hu
  simp [pkC] at hx
  rcases hx with rfl | rfl | rfl <;> rfl

/-- is a number a node's? -/
def isN (n : Int) : Bool := decide (0 ≤ n) && decide (n < 7)
def two (a b : Int) : Bool := isN a && isN b && !decide (a = b)
/-- what a net stands for -/
structure Net where
  L : List Pk
  ct : List Bool
  se : Nat
  ta : Nat
  lo : Nat
def cutAt (ct : List Bool) (a b : Int) : Bool := ct.getD (7 * a.toNat + b.toNat) false
def netC (v : Value) (n : Net) : List Value := v :: (n.ct.map Value.bool ++ [.int .i64 n.se, .int .i64 n.ta, .int .i64 n.lo])
def net0 : Net := ⟨[], List.replicate 49 false, 0, 0, 0⟩

structure NetR (w : World) (P : Nat → Prop) (p : Nat) (v : Value) (n : Net) : Prop where
  row : RowIs w p (netC v n) 56
  pp : P p
  own : w.ownsRow 0 33 3 v n.L.length (pks n.L)
  vp : ∀ g, v.ownBlock = some g → P g ∧ g ≠ p
  ln : n.L.length ≤ 4096
  ct : n.ct.length = 49
  nd : ∀ x ∈ n.L, two x.fr x.tt = true
  sz : ∀ x ∈ n.L, x.s.size ≤ 140737488355328
/-- a net lies in block p; its blocks are among P -/
def NetIs (w : World) (P : Nat → Prop) (p : Nat) (n : Net) : Prop := ∃ v, NetR w P p v n
/-- behind a call the net is n; what was not the net's is as it was -/
def NLeft (w : World) (P : Nat → Prop) (p : Nat) (n : Net) (w' : World) : Prop := ∃ P', NetIs w' P' p n ∧ (∀ k, k < w.heap.size → P' k → P k) ∧ Keep P w w'

theorem NetR.lt {w : World} {P : Nat → Prop} {p : Nat} {v : Value} {n : Net} (h : NetR w P p v n) : p < w.heap.size := h.row.lt
theorem NetIs.lt {w : World} {P : Nat → Prop} {p : Nat} {n : Net} (h : NetIs w P p n) : p < w.heap.size := by obtain ⟨v, h⟩ := h; exact h.lt
theorem NetIs.keep {w w' : World} {P S : Nat → Prop} {p : Nat} {n : Net} (h : NetIs w P p n) (k : Keep S w w') (hS : ∀ j, j < w.heap.size → S j → ¬ P j) : NetIs w' (fun j => P j ∧ j < w.heap.size) p n := by
  obtain ⟨v, h⟩ := h
  exact ⟨v, h.row.keep k (fun hs => hS p h.lt hs h.pp), ⟨h.pp, h.lt⟩, k.ownsRow h.own (fun g e hs => hS g (ownsRow_lt h.own e) hs (h.vp g e).1), fun g e => ⟨⟨(h.vp g e).1, ownsRow_lt h.own e⟩, (h.vp g e).2⟩, h.ln, h.ct, h.nd, h.sz⟩
theorem nleft_same {w w' : World} {P : Nat → Prop} {p : Nat} {n : Net} (h : NetIs w P p n) (k : Keep (fun _ => False) w w') : NLeft w P p n w' :=
  ⟨_, h.keep k (fun _ _ h => h.elim), fun _ _ h => h.1, k.mono (fun _ _ h => h.elim)⟩
/-- a call behind something that leaves the net -/
theorem NLeft.step {w w1 w2 : World} {P : Nat → Prop} {p : Nat} {n n' : Net} (h : NLeft w P p n w1) (k : ∀ P1, NetIs w1 P1 p n → NLeft w1 P1 p n' w2) : NLeft w P p n' w2 := by
  obtain ⟨P1, h1, h2, h3⟩ := h
  obtain ⟨P2, g1, g2, g3⟩ := k P1 h1
  exact ⟨P2, g1, fun j hj hp => h2 j hj (g2 j (Nat.lt_of_lt_of_le hj h3.size) hp), h3.then g3 h2⟩
theorem NLeft.keep {w w1 w2 : World} {P : Nat → Prop} {p : Nat} {n : Net} (h : NLeft w P p n w1) (k : Keep (fun _ => False) w1 w2) : NLeft w P p n w2 :=
  h.step fun P1 h1 => nleft_same h1 k
theorem NLeft.weak {w w1 w2 : World} {P Q : Nat → Prop} {p : Nat} {n : Net} (h : NLeft w1 Q p n w2) (k : Keep (fun _ => False) w w1) (hQ : ∀ j, j < w.heap.size → Q j → P j) : NLeft w P p n w2 := by
  obtain ⟨P1, h1, h2, h3⟩ := h
  exact ⟨P1, h1, fun j hj hp => hQ j hj (h2 j (Nat.lt_of_lt_of_le hj k.size) hp), (k.mono (fun _ _ h => h.elim)).then h3 hQ⟩
theorem NLeft.below {w w' : World} {P : Nat → Prop} {p B : Nat} {n : Net} (h : NLeft w P p n w') (hB : B ≤ w.heap.size) (hP : ∀ j, j < B → ¬ P j) : Below B w w' := by
  obtain ⟨P1, h1, h2, h3⟩ := h
  exact keep_below h3 hP hB
theorem two_bounds {a b : Int} (h : two a b = true) : 0 ≤ a ∧ a < 7 ∧ 0 ≤ b ∧ b < 7 ∧ a ≠ b := by
  simp [two, isN] at h
  omega
theorem npk_cell {fn : Func} {p : Tmp} {ty : TypeId} (h : fn.results = #[.cell p ty]) (tmps : Array Value) (w : World) (g : Nat) (cs : Array Value)
    (hp : tmps.getD p undef = .pointer (some ⟨g, 0, none⟩)) (hg : (loadVar ty ⟨g, 0, none⟩).run Try.prog w = .ok (.agg cs) w) :
    (results fn tmps).run Try.prog w = .ok (.agg cs) w := by
  simp only [results, h]
  have hp2 : tmps[p]?.getD undef = .pointer (some ⟨g, 0, none⟩) := by rw [← hp]; simp [Array.getD_eq_getD_getElem?]
  simp [Sem.run_bind, Result.andThen, hp2, asAddr, hg]
theorem npk_cell_tmp {fn : Func} {p u : Tmp} {ty : TypeId} (h : fn.results = #[.cell p ty, .tmp u]) (tmps : Array Value) (w : World) (g : Nat) (cs : Array Value) (x : Value)
    (hp : tmps.getD p undef = .pointer (some ⟨g, 0, none⟩)) (hx : tmps.getD u undef = x) (hg : (loadVar ty ⟨g, 0, none⟩).run Try.prog w = .ok (.agg cs) w) :
    (results fn tmps).run Try.prog w = .ok (.tuple #[.agg cs, x]) w := by
  rw [results_cell_tmp h, hp, hx]
  simp [asAddr, hg, Result.andThen]
/-- three cells are stored -/
theorem three {W : World} {g : Nat} {y0 y1 y2 v0 v1 v2 : Value} {t : TypeId} (h : RowIs W g [y0, y1, y2] t) : RowIs (((W.setCell ⟨g, 0, none⟩ v0).setCell ⟨g, 1, none⟩ v1).setCell ⟨g, 2, none⟩ v2) g [v0, v1, v2] t ∧ Keep (· = g) W (((W.setCell ⟨g, 0, none⟩ v0).setCell ⟨g, 1, none⟩ v1).setCell ⟨g, 2, none⟩ v2) :=
  ⟨((h.set 0 v0).set 1 v1).set 2 v2, ((keep_setCell W g 0 v0).trans (keep_setCell _ g 1 v1)).trans (keep_setCell _ g 2 v2)⟩
theorem ElPk : ElT 44 33 3 32 := ⟨Try.underlying44, ⟨.agg #[.int .i64 0, .int .i64 0, .string ⟨#[]⟩], by kernel_rfl, by kernel_rfl⟩, by decide⟩
end Go.Proofs.Ytfcchmjofejkhaa
