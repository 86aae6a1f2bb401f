/- What is written into a builder of the call's own. -/
import Derived.Test.YtmadlnchmkhdjaaGreatLayB
import Derived.Test.YtmadlnchmkhdjaaGreatJoined01
import Derived.Test.YtmadlnchmkhdjaaGreatJoined03
namespace Go.Proofs.YtmadlnchmkhdjaaGreat
open Go.RowKit Go.Maps
set_option linter.unusedVariables false
set_option linter.unusedSimpArgs false

/-- a builder of the call's own, and what lies below -/
structure BS (w : World) (l : List UInt8) (W : World) : Prop where
  bd : Bld w.heap.size w.heap.size l W
  b : Below w.heap.size w W
theorem BS.next {w W W' : World} {l : List UInt8} (h : BS w l W) (hb : Below W.heap.size W W') : BS w l W' := ⟨h.bd.keep hb, below_on h.b hb⟩
theorem BS.al {w W : World} {l : List UInt8} (h : BS w l W) (o : Obj) : BS w l (W.alloc o) := h.next ((Below.refl _ _).alloc (Nat.le_refl _) o)
theorem BS.new (w : World) : BS w [] (w.alloc (.cells #[.pointer none, .slice none 0 0] 97)) := ⟨bld_new w, below_al (Below.refl _ _) _⟩
theorem BS.wr {w W : World} {l : List UInt8} (h : BS w l W) (s : List UInt8) (hlen : l.length + s.length ≤ 140737488355328) : Calls Tryz.prog 57 #[.pointer (some ⟨w.heap.size, 0, none⟩), .string ⟨s.toArray⟩] W fun e w' => ∃ n : Int, e = .returned (.tuple #[.int .i64 n, .nilIface]) ∧ Hid (BS w (l ++ s) w') ∧ Hid (∀ (g : Nat) (cs : List Value) (t : TypeId), g ≠ w.heap.size → t ≠ 5 → RowIs W g cs t → RowIs w' g cs t) :=
  (bld_write w.heap.size w.heap.size l ⟨s.toArray⟩ W h.bd (by show _ + s.toArray.size ≤ _; simpa using hlen) h.b.size).mono fun e w' ⟨he, hb, hw, hk⟩ => ⟨_, he, ⟨by simpa using hb, h.b.trans hw⟩, hk⟩
theorem flatB_len {α : Type} (f : α → List UInt8) (m : Nat) (l : List α) (h : ∀ x ∈ l, (f x).length ≤ m) : (l.flatMap f).length ≤ m * l.length := by
  induction l with
  | nil => simp
  | cons x r ih =>
    have h1 := h x (by simp)
    have h2 := ih (fun y hy => h y (List.mem_cons_of_mem _ hy))
    rw [List.flatMap_cons, List.length_append, List.length_cons, Nat.mul_add]
    omega
theorem flatB_take {α : Type} (f : α → List UInt8) (l : List α) (k : Nat) (hk : k < l.length) : (l.take (k + 1)).flatMap f = (l.take k).flatMap f ++ f l[k] := by
  rw [List.take_succ_eq_append_getElem hk, List.flatMap_append]; simp
end Go.Proofs.YtmadlnchmkhdjaaGreat
