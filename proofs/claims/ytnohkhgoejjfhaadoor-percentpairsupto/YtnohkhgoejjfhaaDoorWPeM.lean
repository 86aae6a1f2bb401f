/- How much is read; how many bytes pairs have. -/
import Derived.Test.YtnohkhgoejjfhaaDoorPeV
import Derived.Test.YtnohkhgoejjfhaaDoorPeQ
import Derived.Test.YtnohkhgoejjfhaaDoorPeT
namespace Go.Proofs.YtnohkhgoejjfhaaDoor
open Go.RowKit Go.Maps
set_option linter.unusedVariables false
set_option linter.unusedSimpArgs false

theorem szP_take (l : List Pq) (k : Nat) (hk : k < l.length) : szP (l.take (k + 1)) = szP (l.take k) + (l[k].1.length + l[k].2.length) := by
  rw [List.take_succ_eq_append_getElem hk]
  unfold szP
  rw [List.map_append, List.sum_append]
  simp
theorem szP_le (l : List Pq) (k : Nat) : szP (l.take k) ≤ szP l := by
  unfold szP
  have e : l = l.take k ++ l.drop k := (List.take_append_drop _ _).symm
  have : (l.map (fun p => p.1.length + p.2.length)).sum = ((l.take k).map (fun p => p.1.length + p.2.length)).sum + ((l.drop k).map (fun p => p.1.length + p.2.length)).sum := by
    rw [← List.sum_append, ← List.map_append, ← e]
  omega
theorem rdPq_len (x : List UInt8) (p : Pq) (h : rdPq x = some p) : p.1.length + p.2.length ≤ 2 * x.length := by
  unfold rdPq at h
  split at h
  · cases h
  · have hc := cutB_le 61 x
    cases h1 : rdE rwQ (cutB 61 x).1 with
    | none => rw [h1] at h; cases h
    | some n =>
      cases h2 : rdE rwQ (cutB 61 x).2 with
      | none => rw [h1, h2] at h; cases h
      | some v =>
        rw [h1, h2] at h
        injection h with h
        subst h
        have a := (rdE_len rwQ _ _ _ (Nat.le_refl _) h1).1
        have b := (rdE_len rwQ _ _ _ (Nat.le_refl _) h2).1
        simp only; omega
theorem rdPqs_len (n : Nat) (l : List (List UInt8)) : ∀ q, rdPqs l = some q → (∀ x ∈ l, x.length ≤ n) → szP q ≤ l.length * (2 * n) := by
  induction l with
  | nil => intro q h _; rw [rdPqs] at h; injection h with h; subst h; simp [szP]
  | cons x r ih =>
    intro q h hx
    rw [rdPqs] at h
    cases hp : rdPq x with
    | none => rw [hp] at h; cases h
    | some p =>
      rw [hp] at h
      cases hr : rdPqs r with
      | none => rw [hr] at h; cases h
      | some q' =>
        rw [hr] at h
        injection h with h
        subst h
        have h1 := rdPq_len x p hp
        have h2 := ih q' hr (fun y hy => hx y (List.mem_cons_of_mem _ hy))
        have h3 := hx x (by simp)
        simp only [szP, List.map_cons, List.sum_cons, List.length_cons] at h2 ⊢
        rw [Nat.add_mul]
        omega
theorem unT_len (t : List UInt8) : szP (unT t).1 ≤ 32 * t.length ∧ (unT t).1.length ≤ 16 := by
  unfold unT
  split
  · simp [szP]
  · split
    · simp [szP]
    · rename_i h1 h2
      cases hr : rdPqs (splitB 38 t) with
      | none => simp [szP]
      | some q =>
        have h3 := rdPqs_len t.length _ q hr (split_len 38 t)
        have h4 := (rdPqs_ne _ _ hr).1
        have h5 : (splitB 38 t).length ≤ 16 := by omega
        have h6 : (splitB 38 t).length * (2 * t.length) ≤ 16 * (2 * t.length) := Nat.mul_le_mul_right _ h5
        simp only
        omega
theorem quT_len (l : List Pq) : (quT l).1.length ≤ 3 * szP l + 32 := by
  unfold quT
  split
  · simp
  · split
    · simp
    · have h1 := joinB_le 38 (l.map pqT)
      have h2 := tot_le l
      simp only [List.length_map] at h1
      simp only
      omega
/-- what a round that adds up finds -/
def QArm (l : List Pq) (ad : Option Addr) (TS k N : Nat) (wr : World) : Prop := ∃ (b off : Nat) (NA VA : ByteArray) (N1 N2 : Nat), ad = some ⟨b, off, none⟩ ∧ Hid (k < l.length) ∧ Hid (N2 = TS + szP (l.take (k + 1))) ∧ wrap64 ((k : Int) + 1) = ((k + 1 : Nat) : Int) ∧ (k : Int) < (l.length : Int) ∧ (0 : Int) ≤ (k : Int) ∧ wrap64 ((N : Int) + (NA.size : Int)) = (N1 : Int) ∧ wrap64 ((N1 : Int) + (VA.size : Int)) = (N2 : Int) ∧ wr.cell? ⟨b, off + k * 2, none⟩ = some (.string NA) ∧ wr.cell? ⟨b, off + k * 2 + 1, none⟩ = some (.string VA)
theorem q_arm (l : List Pq) (ad : Option Addr) (TS : Nat) (w : World) (hbd : szP l + l.length + TS ≤ 1048576) (hc : ∀ k (hk : k < l.length), ∃ b off, ad = some ⟨b, off, none⟩ ∧ b < w.heap.size ∧ w.cell? ⟨b, off + k * 2, none⟩ = some (.string ⟨l[k].1.toArray⟩) ∧ w.cell? ⟨b, off + k * 2 + 1, none⟩ = some (.string ⟨l[k].2.toArray⟩)) (k N : Nat) (wr : World) (hk : k < l.length) (hN : N = TS + szP (l.take k)) (hb : Below w.heap.size w wr) : QArm l ad TS k N wr := by
  obtain ⟨b, off, e, hlt, c0, c1⟩ := hc k hk
  have h1 := szP_take l k hk
  have h2 := szP_le l (k + 1)
  have s0 := ba_size l[k].1
  have s1 := ba_size l[k].2
  refine ⟨b, off, ⟨l[k].1.toArray⟩, ⟨l[k].2.toArray⟩, N + l[k].1.length, TS + szP (l.take (k + 1)), e, hk, rfl, ?_, by omega, by omega, ?_, ?_, (hb.cell (p := ⟨b, off + k * 2, none⟩) hlt).trans c0, (hb.cell (p := ⟨b, off + k * 2 + 1, none⟩) hlt).trans c1⟩
  · rw [IntWalk.wrap64_in _ (by omega)]; omega
  · rw [s0, IntWalk.wrap64_in _ (by omega)]; omega
  · rw [s1, IntWalk.wrap64_in _ (by omega)]; omega
end Go.Proofs.YtnohkhgoejjfhaaDoor
