/- Numbers in memory: a slice of whole numbers; those that rise. -/
import Derived.Test.YtnohkhgoejjfhaaDoorBase
import Derived.Test.YtnohkhgoejjfhaaDoorHidM
import Derived.Test.YtnohkhgoejjfhaaDoorRowG
namespace Go.Proofs.YtnohkhgoejjfhaaDoor
open Go.RowKit Go.Maps
set_option linter.unusedVariables false
set_option linter.unusedSimpArgs false

/-- numbers in memory -/
def IntsI (w : World) (v : Value) (l : List Int) : Prop :=
  (∃ ad cap, v = .slice ad 0 cap ∧ l = []) ∨ ∃ b off cap, v = .slice (some ⟨b, off, none⟩) l.length cap ∧ b < w.heap.size ∧ ∀ j (hj : j < l.length), w.cell? ⟨b, off + j, none⟩ = some (.int .i64 l[j])
theorem IntsI.form {w : World} {v : Value} {l : List Int} (h : IntsI w v l) : ∃ ad cap, v = .slice ad l.length cap ∧ ∀ k (hk : k < l.length), ∃ b off, ad = some ⟨b, off, none⟩ ∧ b < w.heap.size ∧ w.cell? ⟨b, off + k, none⟩ = some (.int .i64 l[k]) := by
  rcases h with ⟨ad, cap, rfl, rfl⟩ | ⟨b, off, cap, rfl, hb, hc⟩
  · exact ⟨ad, cap, rfl, fun k hk => absurd hk (by simp)⟩
  · exact ⟨_, cap, rfl, fun k hk => ⟨b, off, rfl, hb, hc k hk⟩⟩
theorem IntsI.next {w w' : World} {v : Value} {l : List Int} (h : IntsI w v l) (hB : Below w.heap.size w w') : IntsI w' v l := by
  rcases h with ⟨ad, cap, rfl, rfl⟩ | ⟨b, off, cap, rfl, hb, hc⟩
  · exact .inl ⟨ad, cap, rfl, rfl⟩
  · exact .inr ⟨b, off, cap, rfl, Nat.lt_of_lt_of_le hb hB.size, fun j hj => by rw [← hc j hj]; exact hB.cell hb⟩
/-- numbers that rise, above a and below 7 -/
def rises : Int → List Int → Bool
  | _, [] => true
  | a, x :: r => decide (a < x) && decide (x < 7) && rises x r
def areM (l : List Int) : Bool := rises (-1) l && decide (0 < l.length)
theorem rises_at {a : Int} {l : List Int} {k : Nat} (hk : k < l.length) : rises a (l.drop k) = (decide (a < l[k]) && decide (l[k] < 7) && rises l[k] (l.drop (k + 1))) := by
  rw [List.drop_eq_getElem_cons hk]; rfl
theorem srow (w : World) (cs : List Value) (t : TypeId) : RowIs (w.alloc (.cells cs.toArray t)) w.heap.size cs t := heap_alloc_new _ _
theorem rises_bd {a : Int} {l : List Int} (h : rises a l = true) (ha : -1 ≤ a) : ∀ x ∈ l, 0 ≤ x ∧ x < 7 := by
  induction l generalizing a with
  | nil => intro x hx; cases hx
  | cons y r ih =>
    simp [rises] at h
    intro x hx
    rcases List.mem_cons.1 hx with e | e
    · subst e; omega
    · exact ih h.2 (by omega) x e
theorem rises_len {a : Int} {l : List Int} (h : rises a l = true) (ha : a < 7) : (l.length : Int) + a ≤ 6 := by
  induction l generalizing a with
  | nil => simp; omega
  | cons y r ih =>
    simp [rises] at h
    have := ih h.2 h.1.2
    simp; omega
theorem areM_len {l : List Int} (h : areM l = true) : 1 ≤ l.length ∧ l.length ≤ 7 := by
  simp [areM] at h
  have := rises_len h.1 (by omega)
  omega
/-- the members' bytes -/
def msB (l : List Int) : List UInt8 := l.flatMap fun x => put x.toNat
theorem msB_take (l : List Int) (k : Nat) (hk : k < l.length) : msB (l.take (k + 1)) = msB (l.take k) ++ put l[k].toNat := by
  unfold msB
  rw [List.take_succ_eq_append_getElem hk, List.flatMap_append]
  simp
theorem msB_len (l : List Int) : (msB l).length ≤ 10 * l.length := by
  unfold msB
  induction l with
  | nil => simp
  | cons x r ih =>
    have := (put_len x.toNat).2
    rw [List.flatMap_cons, List.length_append, List.length_cons]
    omega
theorem add_ls (a b : List UInt8) (W : World) (h : a.length + b.length ≤ 1073741824) : (Op.stringOp .add ⟨a.toArray⟩ ⟨b.toArray⟩).run Tryd.prog W = .ok (.string ⟨(a ++ b).toArray⟩) W := by
  have e : (⟨(a ++ b).toArray⟩ : ByteArray) = ⟨a.toArray⟩ ++ ⟨b.toArray⟩ := by
    apply ByteArray.ext
    simp [ByteArray.data_append]
  rw [e]
  exact run_string_add_sum (P := Tryd.prog) (w := W) _ _ (by show a.toArray.size + b.toArray.size ≤ _; simp; omega)
end Go.Proofs.YtnohkhgoejjfhaaDoor
