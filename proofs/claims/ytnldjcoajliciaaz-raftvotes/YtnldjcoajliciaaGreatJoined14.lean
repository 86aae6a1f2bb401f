/- Joined: The walks of a file's being taken away, and being laid. Files in memory: their bytes, shared between what is and what is sure. Files in memory as a whole, and what a change does to them. -/
import Derived.Test.YtnldjcoajliciaaGreatJoined03
import Derived.BigRegion
import Derived.Test.YtnldjcoajliciaaGreatJoined02
namespace Go.Proofs.YtnldjcoajliciaaGreat
open Go.RowKit Go.Maps
set_option linter.unusedVariables false

/-- is a slice -/
def IsSl (v : Value) : Prop := ∃ ad n c, v = .slice ad n c

end Go.Proofs.YtnldjcoajliciaaGreat
namespace Go.Proofs.YtnldjcoajliciaaGreat
open Go.RowKit Go.Maps
set_option linter.unusedVariables false

/-- what is appended to v in its place does not fall on y -/
def Fits (v y : Value) : Prop := ∀ g n1 c1 n2 c2, v = .slice (some ⟨g, 0, none⟩) n1 c1 → y = .slice (some ⟨g, 0, none⟩) n2 c2 → n1 < c1 → n2 ≤ n1
theorem bsl_block {w : World} {y : Value} {U : Bs} {g : Nat} (h : BSl w 0 y U) (hg : y.ownBlock = some g) : g < w.heap.size := by
  rcases h with ⟨rfl, rfl⟩ | ⟨g', cap, rfl, h1, h2, _⟩
  · simp [Value.ownBlock] at hg
  · simp [Value.ownBlock] at hg; omega
theorem bsl_isSl {w : World} {y : Value} {U : Bs} (h : BSl w 0 y U) : IsSl y := by
  rcases h with ⟨rfl, rfl⟩ | ⟨g', cap, rfl, h1, h2, _⟩
  · exact ⟨_, _, _, rfl⟩
  · exact ⟨_, _, _, rfl⟩
theorem Keep.bsl {S : Nat → Prop} {w w' : World} {y : Value} {U : Bs} (k : Keep S w w') (h : BSl w 0 y U) (hS : ∀ g, y.ownBlock = some g → ¬ S g) : BSl w' 0 y U := by
  rcases h with h | ⟨g, cap, rfl, h1, h2, h3, h4, h5⟩
  · exact .inl h
  · have hg := hS g rfl
    have hb := k.block g h2 hg
    exact .inr ⟨g, cap, rfl, h1, Nat.lt_of_lt_of_le h2 k.size, h3, fun j hj => (k.cell h2 hg).trans (h4 j hj), fun j hj => ⟨by rw [k.cell h2 hg]; exact (h5 j hj).1, by have := (h5 j hj).2; unfold World.frozen? at this ⊢; rw [hb]; exact this⟩⟩

end Go.Proofs.YtnldjcoajliciaaGreat
namespace Go.Proofs.YtnldjcoajliciaaGreat
open Go.RowKit Go.Maps
set_option linter.unusedVariables false

abbrev FV := Value × Bs
def vals (L : List (Bs × FV)) : List (Bs × Value) := L.map fun p => (p.1, p.2.1)
def txts (L : List (Bs × FV)) : List (Bs × Bs) := L.map fun p => (p.1, p.2.2)
theorem vals_put (L : List (Bs × FV)) (n : Bs) (v : FV) : vals (kput L n v) = kput (vals L) n v.1 := (kput_map (fun x : FV => x.1) L n v).symm
/-- a change -/
structure Chg where
  kind : Nat
  name : Bs
  to : Bs
  s : Bs
  long : Nat
/-- files behind a change -/
def doC (A : List (Bs × Bs)) (c : Chg) : List (Bs × Bs) :=
  if c.kind = 0 then kput A c.name ((kget A c.name).getD [] ++ c.s)
  else if c.kind = 1 then kput A c.name c.s
  else if c.kind = 2 then kdel (kput A c.to ((kget A c.name).getD [])) c.name
  else if c.kind = 3 then kdel A c.name
  else kput A c.name (((kget A c.name).getD []).take c.long)

/-- files in memory: the map, and each file's bytes in a block that no other has -/
structure FilIs (w : World) (c : Nat → Nat) (mc : Nat) (mo : Option Nat) (L : List (Bs × FV)) : Prop where
  map : MapV w mo (vals L)
  mcol : ∀ b, mo = some b → c b = mc
  row : ∀ x ∈ L, BSl w 0 x.2.1 x.2.2
  col : ∀ x ∈ L, ∀ g, x.2.1.ownBlock = some g → c g = 3
  apart : ∀ x ∈ L, ∀ y ∈ L, x.1 ≠ y.1 → ∀ g, x.2.1.ownBlock = some g → y.2.1.ownBlock ≠ some g
  srt : Srt L
/-- .. beside which y stays -/
def Safe (L : List (Bs × FV)) (y : Value) : Prop := ∀ x ∈ L, Fits x.2.1 y

theorem FilIs.keep {S : Nat → Prop} {w w' : World} {c c' : Nat → Nat} {mc : Nat} {mo : Option Nat} {L : List (Bs × FV)} (h : FilIs w c mc mo L) (k : Keep S w w') (hc : ∀ k, k < w.heap.size → c' k = c k) (h3 : ∀ k, S k → c k ≠ 3 ∧ c k ≠ mc) : FilIs w' c' mc mo L := by
  have hlt : ∀ b, mo = some b → b < w.heap.size := fun b e => by
    rcases h.map with ⟨h0, _⟩ | ⟨b', h0, hm⟩
    · rw [h0] at e; cases e
    · rw [h0] at e; injection e with e; subst e; exact hm.lt
  refine ⟨k.mapV h.map (fun g e hS => (h3 g hS).2 (h.mcol g e)), fun b e => by rw [hc b (hlt b e)]; exact h.mcol b e, fun x hx => k.bsl (h.row x hx) (fun g e hS => (h3 g hS).1 (h.col x hx g e)), fun x hx g e => ?_, h.apart, h.srt⟩
  rw [hc g (bsl_block (h.row x hx) e)]; exact h.col x hx g e
theorem FilIs.sl {w : World} {c : Nat → Nat} {mc : Nat} {mo : Option Nat} {L : List (Bs × FV)} (h : FilIs w c mc mo L) : ∀ x ∈ vals L, IsSl x.2 := by
  intro x hx
  obtain ⟨y, hy, rfl⟩ := List.mem_map.1 hx
  exact bsl_isSl (h.row y hy)

/-- the old value of a name -/
def oldV (L : List (Bs × FV)) (n : Bs) : FV := (kget L n).getD (.slice none 0 0, [])
theorem FilIs.old {w : World} {c : Nat → Nat} {mc : Nat} {mo : Option Nat} {L : List (Bs × FV)} (h : FilIs w c mc mo L) (n : Bs) : BSl w 0 (oldV L n).1 (oldV L n).2 := by
  unfold oldV
  cases hg : kget L n with
  | none => exact BSl.nil w 0
  | some v => exact h.row _ (kget_mem hg)
theorem FilIs.oldcol {w : World} {c : Nat → Nat} {mc : Nat} {mo : Option Nat} {L : List (Bs × FV)} (h : FilIs w c mc mo L) (n : Bs) : ∀ g, (oldV L n).1.ownBlock = some g → c g = 3 := by
  unfold oldV
  cases hg : kget L n with
  | none => intro g e; simp [Value.ownBlock] at e
  | some v => exact h.col _ (kget_mem hg)
theorem FilIs.oldapart {w : World} {c : Nat → Nat} {mc : Nat} {mo : Option Nat} {L : List (Bs × FV)} (h : FilIs w c mc mo L) (n : Bs) : ∀ y ∈ L, y.1 ≠ n → ∀ g, (oldV L n).1.ownBlock = some g → y.2.1.ownBlock ≠ some g := by
  unfold oldV
  cases hg : kget L n with
  | none => intro y hy hn g e; simp [Value.ownBlock] at e
  | some v => intro y hy hn g e; exact h.apart _ (kget_mem hg) y hy (fun e => hn e.symm) g e
theorem apart_fits {v y : Value} (h : ∀ g, v.ownBlock = some g → y.ownBlock ≠ some g) : Fits v y := by
  intro g n1 c1 n2 c2 e1 e2
  exact absurd (by rw [e2]; rfl) (h g (by rw [e1]; rfl))

/-- a file is laid whose bytes lie in the old one's block, or in a new one -/
theorem FilIs.put {w w1 w2 : World} {c c' : Nat → Nat} {mc : Nat} {mo : Option Nat} {L : List (Bs × FV)} (h : FilIs w c mc mo L) (n : Bs) (v : Value) (T : Bs) (b : Nat)
    (hv : BSl w1 0 v T) (hloc : v.ownBlock = (oldV L n).1.ownBlock ∨ ∃ g, v.ownBlock = some g ∧ w.heap.size ≤ g)
    (hP : ∀ y U, BSl w 0 y U → Fits (oldV L n).1 y → BSl w1 0 y U)
    {S : Nat → Prop} (k : Keep S w1 w2) (hS : ∀ k, k < w1.heap.size → S k → c' k ≠ 3) (hm : MapIs w2 b (kput (vals L) n v)) (hb : c' b = mc) (hc : ∀ k, k < w.heap.size → c' k = c k) (hn : ∀ g, v.ownBlock = some g → w.heap.size ≤ g → c' g = 3) :
    FilIs w2 c' mc (some b) (kput L n (v, T)) := by
  have hcv : ∀ g, v.ownBlock = some g → c' g = 3 := by
    intro g e
    rcases hloc with h1 | ⟨g', h1, h2⟩
    · have h3 := bsl_block (h.old n) (h1 ▸ e)
      rw [hc g h3]; exact h.oldcol n g (h1 ▸ e)
    · exact hn g e (by rw [h1] at e; injection e with e; omega)
  have hcy : ∀ y ∈ L, ∀ g, y.2.1.ownBlock = some g → c' g = 3 := fun y hy g e => by rw [hc g (bsl_block (h.row y hy) e)]; exact h.col y hy g e
  have hav : ∀ y ∈ L, y.1 ≠ n → ∀ g, v.ownBlock = some g → y.2.1.ownBlock ≠ some g := by
    intro y hy hne g e
    rcases hloc with h1 | ⟨g', h1, h2⟩
    · exact h.oldapart n y hy hne g (h1 ▸ e)
    · intro e2
      have := bsl_block (h.row y hy) e2
      rw [h1] at e; injection e with e; omega
  have hrow1 : ∀ y ∈ L, y.1 ≠ n → BSl w1 0 y.2.1 y.2.2 := fun y hy hne => hP _ _ (h.row y hy) (apart_fits (h.oldapart n y hy hne))
  refine ⟨.inr ⟨b, rfl, by rw [vals_put]; exact hm⟩, fun b' e => by injection e with e; rw [← e]; exact hb, fun x hx => ?_, fun x hx g e => ?_, fun x hx y hy hne g e => ?_, srt_kput h.srt n _⟩
  · rcases mem_kput.1 hx with rfl | ⟨hx, hne⟩
    · exact k.bsl hv (fun g e hs => hS g (bsl_block hv e) hs (hcv g e))
    · have := hrow1 x hx hne
      exact k.bsl this (fun g e hs => hS g (bsl_block this e) hs (hcy x hx g e))
  · rcases mem_kput.1 hx with rfl | ⟨hx, hne⟩
    · exact hcv g e
    · exact hcy x hx g e
  · rcases mem_kput.1 hx with rfl | ⟨hx, hxn⟩
    · rcases mem_kput.1 hy with rfl | ⟨hy, hyn⟩
      · exact absurd rfl hne
      · exact hav y hy hyn g e
    · rcases mem_kput.1 hy with rfl | ⟨hy, hyn⟩
      · intro e2; exact hav x hx hxn g e2 e
      · exact h.apart x hx y hy hne g e
end Go.Proofs.YtnldjcoajliciaaGreat
