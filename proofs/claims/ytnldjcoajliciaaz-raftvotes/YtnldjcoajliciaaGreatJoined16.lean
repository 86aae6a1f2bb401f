/- Joined: A disk in memory, and what it stands for. The walk of a loss of power. -/
import Derived.Test.YtnldjcoajliciaaGreatJoined15
import Derived.Test.YtnldjcoajliciaaGreatSameW
import Derived.Test.YtnldjcoajliciaaGreatJoined04
import Derived.Maps.AppendAt
namespace Go.Proofs.YtnldjcoajliciaaGreat
open Go.RowKit Go.Maps
set_option linter.unusedVariables false
set_option linter.unusedSimpArgs false

/-- a fall -/
structure Fl where
  at_ : Int
  keep : Int
  torn : Int
/-- what a disk stands for: what is sure, what waits, how many changes, the falls, the room, whether it is down -/
structure Ds where
  S : List (Bs × Bs)
  ws : List Chg
  n : Nat
  fl : List Fl
  bd : Bool
  rm : Int
  dn : Bool
/-- a row of falls -/
def FRow (w : World) (c : Nat → Nat) (v : Value) (fs : List Fl) : Prop :=
  (∃ ad cap, v = .slice ad 0 cap ∧ fs = []) ∨ ∃ g off cap, v = .slice (some ⟨g, off, none⟩) fs.length cap ∧ c g = 6 ∧ g < w.heap.size ∧ fs.length ≤ cap ∧
    ∀ j (h : j < fs.length), w.cell? ⟨g, off + 3 * j, none⟩ = some (.int .i64 fs[j].at_) ∧ w.cell? ⟨g, off + 3 * j + 1, none⟩ = some (.int .i64 fs[j].keep) ∧ w.cell? ⟨g, off + 3 * j + 2, none⟩ = some (.int .i64 fs[j].torn)
/-- the falls, by their changes -/
def FallIs (w : World) (c : Nat → Nat) (fm : Option Nat) (fl : List Fl) : Prop :=
  (fm = none ∧ fl = []) ∨ ∃ (b n : Nat) (D : DataW Value) (f : Int → Value), fm = some b ∧ c b = 5 ∧ w.ownsMap Tryz.prog 3 rawE b n D ∧ IsMap D ∧ n + fl.length ≤ 4611686018427387904 ∧ (∀ k : Int, D.atKey (.int .i64 k) (.held (.slice none 0 0)) = .held (f k)) ∧ ∀ k : Int, FRow w c (f k) (fl.filter fun x => x.at_ = k)

/-- a disk's cells -/
def dC (nmo : Option Nat) (nu : Nat) (smo : Option Nat) (su : Nat) (wv : Value) (n : Nat) (fm : Option Nat) (bd : Bool) (rm : Int) (dn : Bool) : List Value :=
  [.map nmo, .int .i64 nu, .map smo, .int .i64 su, wv, .int .i64 n, .map fm, .bool bd, .int .i64 rm, .bool dn]
structure Raw where
  nmo : Option Nat
  smo : Option Nat
  N : List (Bs × FV)
  SL : List (Bs × FV)
  wv : Value
  fm : Option Nat
def Raw.cs (R : Raw) (d : Ds) : List Value := dC R.nmo (tot (txts R.N)) R.smo (tot (txts R.SL)) R.wv d.n R.fm d.bd d.rm d.dn

/-! what stays -/
theorem FRow.keep {S : Nat → Prop} {w w' : World} {c c' : Nat → Nat} {v : Value} {fs : List Fl} (h : FRow w c v fs) (k : Keep S w w') (hc : ∀ k, k < w.heap.size → c' k = c k) (hS : ∀ k, k < w.heap.size → S k → c k ≠ 6) : FRow w' c' v fs := by
  rcases h with h | ⟨g, off, cap, h1, h2, h3, h4, h5⟩
  · exact .inl h
  · have hg : ¬ S g := fun hs => hS g h3 hs h2
    exact .inr ⟨g, off, cap, h1, by rw [hc g h3]; exact h2, Nat.lt_of_lt_of_le h3 k.size, h4, fun j hj => by rw [k.cell h3 hg, k.cell h3 hg, k.cell h3 hg]; exact h5 j hj⟩
theorem FallIs.keep {S : Nat → Prop} {w w' : World} {c c' : Nat → Nat} {fm : Option Nat} {fl : List Fl} (h : FallIs w c fm fl) (k : Keep S w w') (hc : ∀ k, k < w.heap.size → c' k = c k) (hS : ∀ k, k < w.heap.size → S k → c k ≠ 6 ∧ c k ≠ 5) : FallIs w' c' fm fl := by
  rcases h with h | ⟨b, n, D, f, h1, h2, h3, h4, h5, h6, h7⟩
  · exact .inl h
  · have hlt := h3.lt
    refine .inr ⟨b, n, D, f, h1, by rw [hc b hlt]; exact h2, ?_, h4, h5, h6, fun q => (h7 q).keep k hc (fun j hj hs => (hS j hj hs).1)⟩
    obtain ⟨es, clock, hb, r⟩ := h3
    exact ⟨es, clock, (k.block b hlt (fun hs => (hS b hlt hs).2 h2)).trans hb, r⟩
/-! how much there is -/
def Ds.wt (d : Ds) : Nat := tot d.S + (d.ws.map fun ch => ch.s.length).sum
end Go.Proofs.YtnldjcoajliciaaGreat
namespace Go.Proofs.YtnldjcoajliciaaGreat
open Go.RowKit Go.Maps
set_option linter.unusedVariables false
set_option linter.unusedSimpArgs false

theorem AppliedTo.then {w w1 w1' w2 : World} {c c1 : Nat → Nat} {mc pb po : Nat} {cs : List Value} {t : TypeId} {A1 A2 : List (Bs × Bs)} {mo1 : Option Nat} (hk1 : Keep (fun k => k = pb ∨ c k = mc ∨ c k = 3) w w1) (hc1 : ∀ k, k < w.heap.size → c1 k = c k)
    (hk : Keep (fun _ => False) w1 w1') (h : AppliedTo w1' c1 mc pb po ((cs.set po (.map mo1)).set (po + 1) (.int .i64 (tot A1))) t A2 w2) : AppliedTo w c mc pb po cs t A2 w2 := by
  obtain ⟨mo', L', c', hr, hf, ht, hc, hk2⟩ := h
  have hs := hk1.size
  have hs2 := hk.size
  refine ⟨mo', L', c', by rw [set_ext] at hr; exact hr, hf, ht, fun k hk => by rw [hc k (by omega), hc1 k hk], (hk1.then hk (fun _ _ h => h.elim)).then hk2 fun j hj e => ?_⟩
  rwa [hc1 j hj] at e

end Go.Proofs.YtnldjcoajliciaaGreat
