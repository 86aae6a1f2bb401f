/- A disk in memory, and what it stands for. -/
import Derived.Test.YtnlodlpjokkepabDownW
import Derived.Test.YtnlodlpjokkepabSameW
import Derived.Maps.AppendAt
namespace Go.Proofs.Ytnlodlpjokkepab
open Go.RowKit Go.Maps
set_option linter.unusedVariables false
set_option linter.unusedSimpArgs false

/-- a fall -/
structure Fl where
  at_ : Int
  keep : Int
  torn : Int
/-- what a disk stands for: what is sure, what waits, how many changes, the falls, the room, whether it is down -/
structure Ds where
  S : List (Bs × Bs)
  ws : List Chg
  n : Nat
  fl : List Fl
  bd : Bool
  rm : Int
  dn : Bool
def replay (ws : List Chg) (A : List (Bs × Bs)) : List (Bs × Bs) := ws.foldl doC A
def Ds.now (d : Ds) : List (Bs × Bs) := replay d.ws d.S

/-- a change's cells -/
def chC (ch : Chg) : List Value := [.int .i64 ch.kind, .string ⟨ch.name.toArray⟩, .string ⟨ch.to.toArray⟩, .string ⟨ch.s.toArray⟩, .int .i64 ch.long]
def chs (ws : List Chg) : List Value := ws.flatMap chC
theorem chs_len (ws : List Chg) : (chs ws).length = ws.length * 5 := by
  induction ws with
  | nil => rfl
  | cons x r ih => simp [chs, chC] at ih ⊢; omega
theorem chs_get : ∀ (ws : List Chg) (i : Nat) (h : i < ws.length) (j : Nat), j < 5 → (chs ws)[5 * i + j]? = (chC ws[i])[j]?
  | x :: r, 0, _, j, hj => by
    show (chC x ++ chs r)[5 * 0 + j]? = _
    rw [List.getElem?_append_left (by simp [chC]; omega)]
    simp
  | x :: r, i + 1, h, j, hj => by
    show (chC x ++ chs r)[5 * (i + 1) + j]? = _
    rw [List.getElem?_append_right (by simp [chC]; omega), show 5 * (i + 1) + j - (chC x).length = 5 * i + j by simp [chC]; omega]
    exact chs_get r i (by simpa using h) j hj

/-- a row of falls -/
def FRow (w : World) (c : Nat → Nat) (v : Value) (fs : List Fl) : Prop :=
  (∃ ad cap, v = .slice ad 0 cap ∧ fs = []) ∨ ∃ g off cap, v = .slice (some ⟨g, off, none⟩) fs.length cap ∧ c g = 6 ∧ g < w.heap.size ∧ fs.length ≤ cap ∧
    ∀ j (h : j < fs.length), w.cell? ⟨g, off + 3 * j, none⟩ = some (.int .i64 fs[j].at_) ∧ w.cell? ⟨g, off + 3 * j + 1, none⟩ = some (.int .i64 fs[j].keep) ∧ w.cell? ⟨g, off + 3 * j + 2, none⟩ = some (.int .i64 fs[j].torn)
/-- the falls, by their changes -/
def FallIs (w : World) (c : Nat → Nat) (fm : Option Nat) (fl : List Fl) : Prop :=
  (fm = none ∧ fl = []) ∨ ∃ (b n : Nat) (D : DataW Value) (f : Int → Value), fm = some b ∧ c b = 5 ∧ w.ownsMap Try.prog 3 rawE b n D ∧ IsMap D ∧ n + fl.length ≤ 4611686018427387904 ∧ (∀ k : Int, D.atKey (.int .i64 k) (.held (.slice none 0 0)) = .held (f k)) ∧ ∀ k : Int, FRow w c (f k) (fl.filter fun x => x.at_ = k)

/-- a disk's cells -/
def dC (nmo : Option Nat) (nu : Nat) (smo : Option Nat) (su : Nat) (wv : Value) (n : Nat) (fm : Option Nat) (bd : Bool) (rm : Int) (dn : Bool) : List Value :=
  [.map nmo, .int .i64 nu, .map smo, .int .i64 su, wv, .int .i64 n, .map fm, .bool bd, .int .i64 rm, .bool dn]
structure Raw where
  nmo : Option Nat
  smo : Option Nat
  N : List (Bs × FV)
  SL : List (Bs × FV)
  wv : Value
  fm : Option Nat
def Raw.cs (R : Raw) (d : Ds) : List Value := dC R.nmo (tot (txts R.N)) R.smo (tot (txts R.SL)) R.wv d.n R.fm d.bd d.rm d.dn

structure DiskR (w : World) (c : Nat → Nat) (p : Nat) (R : Raw) (d : Ds) : Prop where
  row : RowIs w p (R.cs d) 73
  cp : c p = 0
  now : FilIs w c 1 R.nmo R.N
  sure : FilIs w c 2 R.smo R.SL
  eS : txts R.SL = d.S
  eN : txts R.N = d.now
  safe : ∀ y ∈ R.SL, Safe R.N y.2.1
  wrow : w.ownsRow 0 86 5 R.wv d.ws.length (chs d.ws)
  wcol : ∀ g, R.wv.ownBlock = some g → c g = 4
  fall : FallIs w c R.fm d.fl
  unt : ∀ m, (∀ ch ∈ d.ws, m ≠ ch.name ∧ m ≠ ch.to) → kget R.N m = kget R.SL m
  oks : ∀ i (h : i < d.ws.length), ChOk (replay (d.ws.take i) d.S) d.ws[i]
/-- a disk lies in block p; c tells whose each block is: 7, or more, is not the disk's -/
def DiskIs (w : World) (c : Nat → Nat) (p : Nat) (d : Ds) : Prop := ∃ R, DiskR w c p R d

/-! what stays -/
theorem Keep.ownsRow {S : Nat → Prop} {w w' : World} {base e size n : Nat} {v : Value} {xs : List Value} (k : Keep S w w') (h : w.ownsRow base e size v n xs) (hS : ∀ g, v.ownBlock = some g → ¬ S g) : w'.ownsRow base e size v n xs := by
  obtain ⟨h1, h2⟩ := h
  refine ⟨h1, h2.imp id ?_⟩
  rintro ⟨g, cap, cur, rfl, hg, hb, r⟩
  exact ⟨g, cap, cur, rfl, hg, (k.block g (Array.getElem?_eq_some_iff.1 hb).1 (hS g rfl)).trans hb, r⟩
theorem ownsRow_lt {w : World} {base e size n : Nat} {v : Value} {xs : List Value} (h : w.ownsRow base e size v n xs) {g : Nat} (hg : v.ownBlock = some g) : g < w.heap.size := by
  obtain ⟨_, h2⟩ := h
  rcases h2 with ⟨rfl, _⟩ | ⟨g', cap, cur, rfl, _, hb, _⟩
  · simp [Value.ownBlock] at hg
  · simp [Value.ownBlock] at hg; subst hg; exact (Array.getElem?_eq_some_iff.1 hb).1
theorem FRow.keep {S : Nat → Prop} {w w' : World} {c c' : Nat → Nat} {v : Value} {fs : List Fl} (h : FRow w c v fs) (k : Keep S w w') (hc : ∀ k, k < w.heap.size → c' k = c k) (hS : ∀ k, k < w.heap.size → S k → c k ≠ 6) : FRow w' c' v fs := by
  rcases h with h | ⟨g, off, cap, h1, h2, h3, h4, h5⟩
  · exact .inl h
  · have hg : ¬ S g := fun hs => hS g h3 hs h2
    exact .inr ⟨g, off, cap, h1, by rw [hc g h3]; exact h2, Nat.lt_of_lt_of_le h3 k.size, h4, fun j hj => by rw [k.cell h3 hg, k.cell h3 hg, k.cell h3 hg]; exact h5 j hj⟩
theorem FallIs.keep {S : Nat → Prop} {w w' : World} {c c' : Nat → Nat} {fm : Option Nat} {fl : List Fl} (h : FallIs w c fm fl) (k : Keep S w w') (hc : ∀ k, k < w.heap.size → c' k = c k) (hS : ∀ k, k < w.heap.size → S k → c k ≠ 6 ∧ c k ≠ 5) : FallIs w' c' fm fl := by
  rcases h with h | ⟨b, n, D, f, h1, h2, h3, h4, h5, h6, h7⟩
  · exact .inl h
  · have hlt := h3.lt
    refine .inr ⟨b, n, D, f, h1, by rw [hc b hlt]; exact h2, ?_, h4, h5, h6, fun q => (h7 q).keep k hc (fun j hj hs => (hS j hj hs).1)⟩
    obtain ⟨es, clock, hb, r⟩ := h3
    exact ⟨es, clock, (k.block b hlt (fun hs => (hS b hlt hs).2 h2)).trans hb, r⟩
theorem FilIs.keep' {S : Nat → Prop} {w w' : World} {c c' : Nat → Nat} {mc : Nat} {mo : Option Nat} {L : List (Bs × FV)} (h : FilIs w c mc mo L) (k : Keep S w w') (hc : ∀ k, k < w.heap.size → c' k = c k) (h3 : ∀ k, k < w.heap.size → S k → c k ≠ 3 ∧ c k ≠ mc) : FilIs w' c' mc mo L :=
  h.keep (S := fun j => j < w.heap.size ∧ S j) ⟨k.os, k.tape, k.output, k.size, fun j hj hn => k.block j hj (fun hs => hn ⟨hj, hs⟩)⟩ hc (fun j hs => h3 j hs.1 hs.2)
theorem DiskIs.keep {S : Nat → Prop} {w w' : World} {c c' : Nat → Nat} {p : Nat} {d : Ds} (h : DiskIs w c p d) (k : Keep S w w') (hc : ∀ k, k < w.heap.size → c' k = c k) (hS : ∀ k, k < w.heap.size → S k → 6 < c k) : DiskIs w' c' p d := by
  obtain ⟨R, h⟩ := h
  have hp := h.row.lt
  have hS2 : ∀ j, j < w.heap.size → S j → c j ≠ 0 ∧ c j ≠ 1 ∧ c j ≠ 2 ∧ c j ≠ 3 ∧ c j ≠ 4 ∧ c j ≠ 5 ∧ c j ≠ 6 := fun j hj hs => by have := hS j hj hs; omega
  exact ⟨R, h.row.keep k (fun hs => (hS2 p hp hs).1 h.cp), by rw [hc p hp]; exact h.cp, h.now.keep' k hc (fun j hj hs => ⟨(hS2 j hj hs).2.2.2.1, (hS2 j hj hs).2.1⟩), h.sure.keep' k hc (fun j hj hs => ⟨(hS2 j hj hs).2.2.2.1, (hS2 j hj hs).2.2.1⟩), h.eS, h.eN, h.safe,
    k.ownsRow h.wrow (fun g e hs => (hS2 g (ownsRow_lt h.wrow e) hs).2.2.2.2.1 (h.wcol g e)), fun g e => by rw [hc g (ownsRow_lt h.wrow e)]; exact h.wcol g e, h.fall.keep k hc (fun j hj hs => ⟨(hS2 j hj hs).2.2.2.2.2.2, (hS2 j hj hs).2.2.2.2.2.1⟩), h.unt, h.oks⟩

/-! how much there is -/
def Ds.wt (d : Ds) : Nat := tot d.S + (d.ws.map fun ch => ch.s.length).sum
theorem doC_len (A : List (Bs × Bs)) (ch : Chg) : (doC A ch).length ≤ A.length + 1 := by
  unfold doC
  split
  · exact len_kput _ _ _
  · split
    · exact len_kput _ _ _
    · split
      · exact Nat.le_trans (len_kdel _ _) (len_kput _ _ _)
      · split
        · exact Nat.le_trans (len_kdel _ _) (Nat.le_succ _)
        · exact len_kput _ _ _
theorem srt_doC {A : List (Bs × Bs)} (h : Srt A) (ch : Chg) : Srt (doC A ch) := by
  unfold doC
  split
  · exact srt_kput h _ _
  · split
    · exact srt_kput h _ _
    · split
      · exact srt_kdel (srt_kput h _ _) _
      · split
        · exact srt_kdel h _
        · exact srt_kput h _ _
theorem tot_doC {A : List (Bs × Bs)} (h : Srt A) (ch : Chg) (hm : ch.kind = 2 → ch.to ≠ ch.name) : tot (doC A ch) ≤ tot A + ch.s.length := by
  unfold doC
  split
  · have := tot_kput h ch.name ((kget A ch.name).getD [] ++ ch.s)
    rw [List.length_append] at this; omega
  · split
    · have := tot_kput h ch.name ch.s
      omega
    · split
      · rename_i h2
        have h3 := tot_kput h ch.to ((kget A ch.name).getD [])
        have h4 := tot_kdel (srt_kput h ch.to ((kget A ch.name).getD [])) ch.name
        rw [kget_put_other _ _ (hm h2)] at h4
        omega
      · split
        · have := tot_kdel h ch.name
          omega
        · have := tot_kput h ch.name (((kget A ch.name).getD []).take ch.long)
          rw [List.length_take] at this
          omega
theorem replay_bounds : ∀ (ws : List Chg) (A : List (Bs × Bs)), Srt A → (∀ ch ∈ ws, ch.kind = 2 → ch.to ≠ ch.name) → Srt (replay ws A) ∧ tot (replay ws A) ≤ tot A + (ws.map fun ch => ch.s.length).sum ∧ (replay ws A).length ≤ A.length + ws.length
  | [], A, h, _ => ⟨h, by simp [replay], by simp [replay]⟩
  | x :: r, A, h, hm => by
    obtain ⟨h1, h2, h3⟩ := replay_bounds r (doC A x) (srt_doC h x) (fun ch hc => hm ch (by simp [hc]))
    have h4 := tot_doC h x (hm x (by simp))
    have h5 := doC_len A x
    refine ⟨h1, ?_, ?_⟩
    · show tot (replay r (doC A x)) ≤ _
      simp only [List.map_cons, List.sum_cons]; omega
    · show (replay r (doC A x)).length ≤ _
      simp only [List.length_cons]; omega
theorem replay_append (a b : List Chg) (A : List (Bs × Bs)) : replay (a ++ b) A = replay b (replay a A) := List.foldl_append ..
theorem replay_snoc (a : List Chg) (x : Chg) (A : List (Bs × Bs)) : replay (a ++ [x]) A = doC (replay a A) x := by rw [replay_append]; rfl
end Go.Proofs.Ytnlodlpjokkepab
