/- Files by their names: lists that rise by their names, and the map that reads as one. -/
import Derived.Test.YtnldjcoajliciaaGreatJoined01
import Derived.Maps.OwnSet
import Derived.StringKeys
import Derived.WalkKit
namespace Go.Proofs.YtnldjcoajliciaaGreat
open Go.RowKit Go.Maps
set_option linter.unusedVariables false

abbrev Bs := List UInt8
section
variable {α β : Type}
/-- laid in, ahead of the first that it stands before -/
def kins (x : Bs × α) : List (Bs × α) → List (Bs × α)
  | [] => [x]
  | y :: r => if (Lit.string x.1).before (.string y.1) then x :: y :: r else y :: kins x r
def kdel (L : List (Bs × α)) (n : Bs) : List (Bs × α) := L.filter fun p => !(p.1 == n)
def kput (L : List (Bs × α)) (n : Bs) (v : α) : List (Bs × α) := kins (n, v) (kdel L n)
def kget (L : List (Bs × α)) (n : Bs) : Option α := (L.find? fun p => p.1 == n).map (·.2)

theorem mem_kins (x y : Bs × α) : ∀ L : List (Bs × α), y ∈ kins x L ↔ y = x ∨ y ∈ L
  | [] => by simp [kins]
  | z :: r => by
    unfold kins
    split
    · simp
    · simp only [List.mem_cons, mem_kins x y r]
      constructor
      · rintro (h | h | h) <;> simp [h]
      · rintro (h | h | h) <;> simp [h]
theorem mem_kdel {L : List (Bs × α)} {n : Bs} {y : Bs × α} : y ∈ kdel L n ↔ y ∈ L ∧ y.1 ≠ n := by simp [kdel]
theorem mem_kput {L : List (Bs × α)} {n : Bs} {v : α} {y : Bs × α} : y ∈ kput L n v ↔ y = (n, v) ∨ (y ∈ L ∧ y.1 ≠ n) := by rw [kput, mem_kins, mem_kdel]
theorem kget_mem {L : List (Bs × α)} {n : Bs} {v : α} (h : kget L n = some v) : (n, v) ∈ L := by
  unfold kget at h
  cases hf : L.find? (fun p => p.1 == n) with
  | none => rw [hf] at h; cases h
  | some x =>
    rw [hf] at h
    have h1 : x.1 = n := by simpa using List.find?_some hf
    have h2 := List.mem_of_find?_eq_some hf
    obtain ⟨a, b⟩ := x
    simp at h h1
    subst h h1
    exact h2
theorem kdel_map (f : α → β) (L : List (Bs × α)) (n : Bs) : kdel (L.map fun p => (p.1, f p.2)) n = (kdel L n).map fun p => (p.1, f p.2) := by
  unfold kdel
  rw [List.filter_map]
  rfl
theorem kins_map (f : α → β) (x : Bs × α) : ∀ L : List (Bs × α), kins (x.1, f x.2) (L.map fun p => (p.1, f p.2)) = (kins x L).map fun p => (p.1, f p.2)
  | [] => rfl
  | y :: r => by
    simp only [List.map_cons]
    unfold kins
    simp only
    split
    · simp
    · simp [kins_map f x r]
theorem kput_map (f : α → β) (L : List (Bs × α)) (n : Bs) (v : α) : kput (L.map fun p => (p.1, f p.2)) n (f v) = (kput L n v).map fun p => (p.1, f p.2) := by
  unfold kput
  rw [kdel_map, kins_map f (n, v)]
end

/-- what the map reads as -/
def mp (L : List (Bs × Value)) : DataW Value := .map (L.map fun p => (.string p.1, .held p.2))
/-- an element reads as itself -/
def rawE (v : Value) : Option (DataW Value × List MemPlace) := some (.held v, [])

/-- the map in block b reads as L -/
def MapIs (w : World) (b : Nat) (L : List (Bs × Value)) : Prop := w.ownsMap Tryz.prog 9 rawE b L.length (mp L)
/-- .. or there is none -/
def MapV (w : World) (mo : Option Nat) (L : List (Bs × Value)) : Prop := (mo = none ∧ L = []) ∨ ∃ b, mo = some b ∧ MapIs w b L

/-! the order -/
section
variable {α β : Type}
theorem bef_total {a b : Bs} (h : a ≠ b) : (Lit.string a).before (.string b) = true ∨ (Lit.string b).before (.string a) = true := ChangeMaps.before_total ⟨a, rfl⟩ ⟨b, rfl⟩ (fun e => h (by injection e))
/-- rising by the names -/
def Srt (L : List (Bs × α)) : Prop := L.Pairwise fun x y => (Lit.string x.1).before (.string y.1) = true
theorem srt_kdel {L : List (Bs × α)} (h : Srt L) (n : Bs) : Srt (kdel L n) := List.Pairwise.filter _ h
theorem srt_kins {x : Bs × α} : ∀ {L : List (Bs × α)}, Srt L → (∀ y ∈ L, y.1 ≠ x.1) → Srt (kins x L)
  | [], _, _ => by unfold kins Srt; simp
  | y :: r, h, hn => by
    unfold Srt at h
    rw [List.pairwise_cons] at h
    unfold kins
    split
    · rename_i hb
      unfold Srt
      rw [List.pairwise_cons, List.pairwise_cons]
      refine ⟨fun z hz => ?_, h⟩
      rcases List.mem_cons.1 hz with rfl | hz
      · exact hb
      · exact WideShapes.before_trans hb (h.1 z hz)
    · rename_i hb
      have hyx := (bef_total (hn y (by simp))).resolve_right hb
      unfold Srt
      rw [List.pairwise_cons]
      refine ⟨fun z hz => ?_, srt_kins h.2 (fun z hz => hn z (by simp [hz]))⟩
      rcases (mem_kins _ _ _).1 hz with rfl | hz
      · exact hyx
      · exact h.1 z hz
theorem srt_kput {L : List (Bs × α)} (h : Srt L) (n : Bs) (v : α) : Srt (kput L n v) := srt_kins (srt_kdel h n) (fun y hy => (mem_kdel.1 hy).2)
end

/-- all bytes -/
def tot (A : List (Bs × Bs)) : Nat := (A.map fun p => p.2.length).sum
end Go.Proofs.YtnldjcoajliciaaGreat
