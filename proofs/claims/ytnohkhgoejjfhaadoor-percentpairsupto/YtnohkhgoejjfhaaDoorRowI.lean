/- Rows of numbers: as cells, grown by append. -/
import Derived.Test.YtnohkhgoejjfhaaDoorIntM
import Derived.Test.YtnohkhgoejjfhaaDoorGApp
namespace Go.Proofs.YtnohkhgoejjfhaaDoor
open Go.RowKit Go.Maps
set_option linter.unusedVariables false
set_option linter.unusedSimpArgs false

/-- numbers as cells -/
def isC (l : List Int) : List Value := l.map (Value.int .i64)
theorem isC_len (l : List Int) : (isC l).length = l.length := List.length_map ..
theorem isC_get (l : List Int) (k : Nat) (hk : k < l.length) : (isC l)[k]? = some (.int .i64 l[k]) := by simp [isC, hk]
theorem isC_set (l : List Int) (k : Nat) (x : Int) : (isC l).set k (.int .i64 x) = isC (l.set k x) := by simp [isC, List.map_set]
theorem info3 : (Tryd.prog.info? 3).map (fun i => (i.zero, i.size, i.bytes)) = some (some (.int .i64 0), 1, 8) := by kernel_rfl
theorem below_drew0 (w : World) (q : Nat) : Below w.heap.size w (World.drewN w q) := below_drewN (Below.refl _ _) q
theorem row_ints {w : World} {g cap : Nat} {t : TypeId} {l : List Int} (h : RowIs w g (isC l) t) : IntsI w (.slice (some ⟨g, 0, none⟩) l.length cap) l :=
  .inr ⟨g, 0, cap, rfl, h.lt, fun j hj => by rw [Nat.zero_add]; exact h.cellAt (isC_get l j hj)⟩
theorem row_last (w : World) (cs : List Value) (t : TypeId) (n : Nat) (hn : n = w.heap.size) : RowIs (w.alloc (.cells cs.toArray t)) n cs t := by subst hn; exact srow w cs t
theorem row_old {w : World} {g : Nat} {cs : List Value} {t : TypeId} (h : RowIs w g cs t) (o : Obj) : RowIs (w.alloc o) g cs t := h.keep (keep_alloc (fun _ => False) _ _) (fun h => h)
theorem below_al {w W : World} (h : Below w.heap.size w W) (o : Obj) : Below w.heap.size w (W.alloc o) := h.alloc h.size o
theorem below_on {w W W' : World} (h : Below w.heap.size w W) (k : Below W.heap.size W W') : Below w.heap.size w W' := h.trans (k.mono h.size)
theorem ints_none (w : World) : IntsI w (.slice none 0 0) [] := .inl ⟨none, 0, rfl, rfl⟩
/-- numbers in a row that the call owns -/
def OwnI (w : World) (B : Nat) (v : Value) (l : List Int) : Prop := w.ownsRow B 3 1 v l.length (isC l)
theorem ownI_nil (w : World) (B : Nat) : OwnI w B (.slice none 0 0) [] := ⟨rfl, .inl ⟨rfl, rfl⟩⟩
theorem OwnI.form {w : World} {B : Nat} {v : Value} {l : List Int} (h : OwnI w B v l) : ∃ ad cap, v = .slice ad l.length cap := row_form h
theorem OwnI.ints {w : World} {B : Nat} {v : Value} {l : List Int} (h : OwnI w B v l) : IntsI w v l := by
  rcases gsrc_all h with ⟨c, e, h0, h1⟩ | ⟨g, off, c, e, hg, hc⟩
  · have hl : l = [] := List.length_eq_zero_iff.1 h0
    subst hl
    exact .inl ⟨none, c, e, rfl⟩
  · exact .inr ⟨g, off, c, e, hg, fun j hj => hc j _ (isC_get l j hj)⟩
theorem OwnI.next {w w' : World} {B : Nat} {v : Value} {l : List Int} (h : OwnI w B v l) (hB : Below w.heap.size w w') : OwnI w' B v l :=
  (hB.keep (fun _ => False)).ownsRow h (fun _ _ h => h)
theorem own_new {w : World} {B : Nat} {v : Value} {l : List Int} (h : OwnI w B v l) (o : Obj) : OwnI (w.alloc o) B v l := h.next ((Below.refl _ _).alloc (Nat.le_refl _) o)
end Go.Proofs.YtnohkhgoejjfhaaDoor
