/- Joined: A disk in memory, and what it stands for. The walk of a loss of power. -/
import Derived.Test.YtefbioainibmaaaGreatDoorJoined14
import Derived.Test.YtefbioainibmaaaGreatDoorSameW
import Derived.Test.YtefbioainibmaaaGreatDoorJoined05
import Derived.Maps.AppendAt
namespace Go.Proofs.YtefbioainibmaaaGreatDoor
open Go.RowKit Go.Maps
set_option linter.unusedVariables false
set_option linter.unusedSimpArgs false

/-- a fall -/
structure Fl where
  at_ : Int
  keep : Int
  torn : Int
/-- what a disk stands for: what is sure, what waits, how many changes, the falls, the room, whether it is down -/
structure Ds where
  S : List (Bs × Bs)
  ws : List Chg
  n : Nat
  fl : List Fl
  bd : Bool
  rm : Int
  dn : Bool
def replay (ws : List Chg) (A : List (Bs × Bs)) : List (Bs × Bs) := ws.foldl doC A
def Ds.now (d : Ds) : List (Bs × Bs) := replay d.ws d.S

/-- a change's cells -/
def chC (ch : Chg) : List Value := [.int .i64 ch.kind, .string ⟨ch.name.toArray⟩, .string ⟨ch.to.toArray⟩, .string ⟨ch.s.toArray⟩, .int .i64 ch.long]
def chs (ws : List Chg) : List Value := ws.flatMap chC
theorem chs_get : ∀ (ws : List Chg) (i : Nat) (h : i < ws.length) (j : Nat), j < 5 → (chs ws)[5 * i + j]? = (chC ws[i])[j]?
  | x :: r, 0, _, j, hj => by
    show (chC x ++ chs r)[5 * 0 + j]? = _
    rw [List.getElem?_append_left (by simp [chC]; omega)]
    simp
  | x :: r, i + 1, h, j, hj => by
    show (chC x ++ chs r)[5 * (i + 1) + j]? = _
    rw [List.getElem?_append_right (by simp [chC]; omega), show 5 * (i + 1) + j - (chC x).length = 5 * i + j by simp [chC]; omega]
    exact chs_get r i (by simpa using h) j hj

/-- a row of falls -/
def FRow (w : World) (c : Nat → Nat) (v : Value) (fs : List Fl) : Prop :=
  (∃ ad cap, v = .slice ad 0 cap ∧ fs = []) ∨ ∃ g off cap, v = .slice (some ⟨g, off, none⟩) fs.length cap ∧ c g = 6 ∧ g < w.heap.size ∧ fs.length ≤ cap ∧
    ∀ j (h : j < fs.length), w.cell? ⟨g, off + 3 * j, none⟩ = some (.int .i64 fs[j].at_) ∧ w.cell? ⟨g, off + 3 * j + 1, none⟩ = some (.int .i64 fs[j].keep) ∧ w.cell? ⟨g, off + 3 * j + 2, none⟩ = some (.int .i64 fs[j].torn)
/-- the falls, by their changes -/
def FallIs (w : World) (c : Nat → Nat) (fm : Option Nat) (fl : List Fl) : Prop :=
  (fm = none ∧ fl = []) ∨ ∃ (b n : Nat) (D : DataW Value) (f : Int → Value), fm = some b ∧ c b = 5 ∧ w.ownsMap Tryz.prog 3 rawE b n D ∧ IsMap D ∧ n + fl.length ≤ 4611686018427387904 ∧ (∀ k : Int, D.atKey (.int .i64 k) (.held (.slice none 0 0)) = .held (f k)) ∧ ∀ k : Int, FRow w c (f k) (fl.filter fun x => x.at_ = k)

/-- a disk's cells -/
def dC (nmo : Option Nat) (nu : Nat) (smo : Option Nat) (su : Nat) (wv : Value) (n : Nat) (fm : Option Nat) (bd : Bool) (rm : Int) (dn : Bool) : List Value :=
  [.map nmo, .int .i64 nu, .map smo, .int .i64 su, wv, .int .i64 n, .map fm, .bool bd, .int .i64 rm, .bool dn]
structure Raw where
  nmo : Option Nat
  smo : Option Nat
  N : List (Bs × FV)
  SL : List (Bs × FV)
  wv : Value
  fm : Option Nat
def Raw.cs (R : Raw) (d : Ds) : List Value := dC R.nmo (tot (txts R.N)) R.smo (tot (txts R.SL)) R.wv d.n R.fm d.bd d.rm d.dn

structure DiskR (w : World) (c : Nat → Nat) (p : Nat) (R : Raw) (d : Ds) : Prop where
  row : RowIs w p (R.cs d) 124
  cp : c p = 0
  now : FilIs w c 1 R.nmo R.N
  sure : FilIs w c 2 R.smo R.SL
  eS : txts R.SL = d.S
  eN : txts R.N = d.now
  safe : ∀ y ∈ R.SL, Safe R.N y.2.1
  wrow : w.ownsRow 0 131 5 R.wv d.ws.length (chs d.ws)
  wcol : ∀ g, R.wv.ownBlock = some g → c g = 4
  fall : FallIs w c R.fm d.fl
  unt : ∀ m, (∀ ch ∈ d.ws, m ≠ ch.name ∧ m ≠ ch.to) → kget (txts R.N) m = kget (txts R.SL) m
  oks : ∀ i (h : i < d.ws.length), ChOk (replay (d.ws.take i) d.S) d.ws[i]
  wnil : d.ws = [] → R.wv = .slice none 0 0
  xap : ∀ y ∈ R.SL, (∀ ch ∈ d.ws, y.1 ≠ ch.name ∧ y.1 ≠ ch.to) → ∀ x ∈ R.N, x.1 ≠ y.1 → ∀ g, x.2.1.ownBlock = some g → y.2.1.ownBlock ≠ some g
/-- a disk lies in block p; c tells whose each block is: 7, or more, is not the disk's -/
def DiskIs (w : World) (c : Nat → Nat) (p : Nat) (d : Ds) : Prop := ∃ R, DiskR w c p R d

/-! what stays -/
theorem FRow.keep {S : Nat → Prop} {w w' : World} {c c' : Nat → Nat} {v : Value} {fs : List Fl} (h : FRow w c v fs) (k : Keep S w w') (hc : ∀ k, k < w.heap.size → c' k = c k) (hS : ∀ k, k < w.heap.size → S k → c k ≠ 6) : FRow w' c' v fs := by
  rcases h with h | ⟨g, off, cap, h1, h2, h3, h4, h5⟩
  · exact .inl h
  · have hg : ¬ S g := fun hs => hS g h3 hs h2
    exact .inr ⟨g, off, cap, h1, by rw [hc g h3]; exact h2, Nat.lt_of_lt_of_le h3 k.size, h4, fun j hj => by rw [k.cell h3 hg, k.cell h3 hg, k.cell h3 hg]; exact h5 j hj⟩
theorem FallIs.keep {S : Nat → Prop} {w w' : World} {c c' : Nat → Nat} {fm : Option Nat} {fl : List Fl} (h : FallIs w c fm fl) (k : Keep S w w') (hc : ∀ k, k < w.heap.size → c' k = c k) (hS : ∀ k, k < w.heap.size → S k → c k ≠ 6 ∧ c k ≠ 5) : FallIs w' c' fm fl := by
  rcases h with h | ⟨b, n, D, f, h1, h2, h3, h4, h5, h6, h7⟩
  · exact .inl h
  · have hlt := h3.lt
    refine .inr ⟨b, n, D, f, h1, by rw [hc b hlt]; exact h2, ?_, h4, h5, h6, fun q => (h7 q).keep k hc (fun j hj hs => (hS j hj hs).1)⟩
    obtain ⟨es, clock, hb, r⟩ := h3
    exact ⟨es, clock, (k.block b hlt (fun hs => (hS b hlt hs).2 h2)).trans hb, r⟩
theorem FilIs.keep' {S : Nat → Prop} {w w' : World} {c c' : Nat → Nat} {mc : Nat} {mo : Option Nat} {L : List (Bs × FV)} (h : FilIs w c mc mo L) (k : Keep S w w') (hc : ∀ k, k < w.heap.size → c' k = c k) (h3 : ∀ k, k < w.heap.size → S k → c k ≠ 3 ∧ c k ≠ mc) : FilIs w' c' mc mo L :=
  h.keep (S := fun j => j < w.heap.size ∧ S j) ⟨k.os, k.tape, k.output, k.size, fun j hj hn => k.block j hj (fun hs => hn ⟨hj, hs⟩)⟩ hc (fun j hs => h3 j hs.1 hs.2)
theorem DiskIs.keep {S : Nat → Prop} {w w' : World} {c c' : Nat → Nat} {p : Nat} {d : Ds} (h : DiskIs w c p d) (k : Keep S w w') (hc : ∀ k, k < w.heap.size → c' k = c k) (hS : ∀ k, k < w.heap.size → S k → 6 < c k) : DiskIs w' c' p d := by
  obtain ⟨R, h⟩ := h
  have hp := h.row.lt
  have hS2 : ∀ j, j < w.heap.size → S j → c j ≠ 0 ∧ c j ≠ 1 ∧ c j ≠ 2 ∧ c j ≠ 3 ∧ c j ≠ 4 ∧ c j ≠ 5 ∧ c j ≠ 6 := fun j hj hs => by have := hS j hj hs; omega
  exact ⟨R, h.row.keep k (fun hs => (hS2 p hp hs).1 h.cp), by rw [hc p hp]; exact h.cp, h.now.keep' k hc (fun j hj hs => ⟨(hS2 j hj hs).2.2.2.1, (hS2 j hj hs).2.1⟩), h.sure.keep' k hc (fun j hj hs => ⟨(hS2 j hj hs).2.2.2.1, (hS2 j hj hs).2.2.1⟩), h.eS, h.eN, h.safe,
    k.ownsRow h.wrow (fun g e hs => (hS2 g (ownsRow_lt h.wrow e) hs).2.2.2.2.1 (h.wcol g e)), fun g e => by rw [hc g (ownsRow_lt h.wrow e)]; exact h.wcol g e, h.fall.keep k hc (fun j hj hs => ⟨(hS2 j hj hs).2.2.2.2.2.2, (hS2 j hj hs).2.2.2.2.2.1⟩), h.unt, h.oks, h.wnil, h.xap⟩

/-! how much there is -/
def Ds.wt (d : Ds) : Nat := tot d.S + (d.ws.map fun ch => ch.s.length).sum
theorem doC_len (A : List (Bs × Bs)) (ch : Chg) : (doC A ch).length ≤ A.length + 1 := by
  unfold doC
  split
  · exact len_kput _ _ _
  · split
    · exact len_kput _ _ _
    · split
      · exact Nat.le_trans (len_kdel _ _) (len_kput _ _ _)
      · split
        · exact Nat.le_trans (len_kdel _ _) (Nat.le_succ _)
        · exact len_kput _ _ _
theorem srt_doC {A : List (Bs × Bs)} (h : Srt A) (ch : Chg) : Srt (doC A ch) := by
  unfold doC
  split
  · exact srt_kput h _ _
  · split
    · exact srt_kput h _ _
    · split
      · exact srt_kdel (srt_kput h _ _) _
      · split
        · exact srt_kdel h _
        · exact srt_kput h _ _
theorem tot_doC {A : List (Bs × Bs)} (h : Srt A) (ch : Chg) (hm : ch.kind = 2 → ch.to ≠ ch.name) : tot (doC A ch) ≤ tot A + ch.s.length := by
  unfold doC
  split
  · have := tot_kput h ch.name ((kget A ch.name).getD [] ++ ch.s)
    rw [List.length_append] at this; omega
  · split
    · have := tot_kput h ch.name ch.s
      omega
    · split
      · rename_i h2
        have h3 := tot_kput h ch.to ((kget A ch.name).getD [])
        have h4 := tot_kdel (srt_kput h ch.to ((kget A ch.name).getD [])) ch.name
        rw [kget_put_other _ _ (hm h2)] at h4
        omega
      · split
        · have := tot_kdel h ch.name
          omega
        · have := tot_kput h ch.name (((kget A ch.name).getD []).take ch.long)
          rw [List.length_take] at this
          omega
theorem replay_bounds : ∀ (ws : List Chg) (A : List (Bs × Bs)), Srt A → (∀ ch ∈ ws, ch.kind = 2 → ch.to ≠ ch.name) → Srt (replay ws A) ∧ tot (replay ws A) ≤ tot A + (ws.map fun ch => ch.s.length).sum ∧ (replay ws A).length ≤ A.length + ws.length
  | [], A, h, _ => ⟨h, by simp [replay], by simp [replay]⟩
  | x :: r, A, h, hm => by
    obtain ⟨h1, h2, h3⟩ := replay_bounds r (doC A x) (srt_doC h x) (fun ch hc => hm ch (by simp [hc]))
    have h4 := tot_doC h x (hm x (by simp))
    have h5 := doC_len A x
    refine ⟨h1, ?_, ?_⟩
    · show tot (replay r (doC A x)) ≤ _
      simp only [List.map_cons, List.sum_cons]; omega
    · show (replay r (doC A x)).length ≤ _
      simp only [List.length_cons]; omega
theorem replay_append (a b : List Chg) (A : List (Bs × Bs)) : replay (a ++ b) A = replay b (replay a A) := List.foldl_append ..
theorem replay_snoc (a : List Chg) (x : Chg) (A : List (Bs × Bs)) : replay (a ++ [x]) A = doC (replay a A) x := by rw [replay_append]; rfl
end Go.Proofs.YtefbioainibmaaaGreatDoor
namespace Go.Proofs.YtefbioainibmaaaGreatDoor
open Go.RowKit Go.Maps
set_option linter.unusedVariables false
set_option linter.unusedSimpArgs false

/-- a disk, of whose files that are nothing is said -/
structure DiskF (w : World) (c : Nat → Nat) (p : Nat) (R : Raw) (d : Ds) : Prop where
  row : RowIs w p (R.cs d) 124
  cp : c p = 0
  sure : FilIs w c 2 R.smo R.SL
  eS : txts R.SL = d.S
  wrow : w.ownsRow 0 131 5 R.wv d.ws.length (chs d.ws)
  wcol : ∀ g, R.wv.ownBlock = some g → c g = 4
  fall : FallIs w c R.fm d.fl
  oks : ∀ i (h : i < d.ws.length), ChOk (replay (d.ws.take i) d.S) d.ws[i]
theorem DiskR.f {w : World} {c : Nat → Nat} {p : Nat} {R : Raw} {d : Ds} (h : DiskR w c p R d) : DiskF w c p R d := ⟨h.row, h.cp, h.sure, h.eS, h.wrow, h.wcol, h.fall, h.oks⟩
/-- how many changes are kept whole -/
def keepN (d : Ds) (keep : Int) : Nat := min keep.toNat d.ws.length
/-- what is sure behind a loss of power -/
def failS (d : Ds) (keep torn : Int) : List (Bs × Bs) :=
  match d.ws[keepN d keep]? with
  | none => replay (d.ws.take (keepN d keep)) d.S
  | some ch => tearC (replay (d.ws.take (keepN d keep)) d.S) ch torn
def failD (d : Ds) (keep torn : Int) : Ds := if d.dn then d else { d with S := failS d keep torn, ws := [], dn := true }

theorem size86 : (Tryz.prog.info? 131).map (·.size) = some 5 := by kernel_rfl
/-- 'l[:k]' -/
theorem slice_to {w : World} {v : Value} {n k : Nat} {xs : List Value} (h : w.ownsRow 0 131 5 v n xs) (hk : k ≤ n) : ∃ ad cap, (∀ m, n = m → ∃ c, v = .slice ad m c) ∧ ∀ W : World, (Instr.slice 121 v none (some (.int .i64 (k : Int))) none).run Tryz.prog W = .ok (.slice ad k cap) W := by
  obtain ⟨i0, hi, _⟩ := Option.map_eq_some_iff.1 size86
  obtain ⟨_, h2⟩ := h
  rcases h2 with ⟨rfl, rfl⟩ | ⟨g, cap, cur, rfl, _, hb, hn, hm, _⟩
  · have hk0 : k = 0 := by omega
    subst hk0
    refine ⟨none, 0, fun m e => ⟨0, by rw [← e]⟩, fun W => ?_⟩
    simp [Instr.slice, Instr.sliceBounds, Instr.sliceBound, asIntOf, run_underlying Tryz.underlying121, sizeOf, typeInfo, hi, Result.andThen]
  · refine ⟨some ⟨g, 0, none⟩, cap, fun m e => ⟨cap, by rw [← e]⟩, fun W => ?_⟩
    have e1 : (0 : Int) ≤ (k : Int) := by omega
    have e2 : k ≤ cap := by omega
    have e3 : (⟨g, 0, none⟩ : Addr).add 0 = ⟨g, 0, none⟩ := rfl
    simp [Instr.slice, Instr.sliceBounds, Instr.sliceBound, asIntOf, run_underlying Tryz.underlying121, sizeOf, typeInfo, hi, Result.andThen, e1, e2, e3]
/-- a change that waits, by its cells -/
theorem wait_cells {w : World} {ad : Option Addr} {m c : Nat} {ws : List Chg} (h : w.ownsRow 0 131 5 (.slice ad m c) ws.length (chs ws)) (i : Nat) (hi : i < ws.length) : ∃ g, ad = some ⟨g, 0, none⟩ ∧ ∀ j, j < 5 → w.cell? ⟨g, 5 * i + j, none⟩ = (chC ws[i])[j]? := by
  obtain ⟨h1, h2⟩ := h
  rcases h2 with ⟨e, h0⟩ | ⟨g, cap, cur, e, _, hb, hn, hm, hs, ht⟩
  · omega
  · injection e with e1 e2 e3
    refine ⟨g, e1, fun j hj => ?_⟩
    rw [cell_of_row _ _ _ _ _ _ hb, ← chs_get ws i hi j hj, ← ht, List.getElem?_take_of_lt (by omega)]
    simp

set_option maxRecDepth 100000 in
set_option maxHeartbeats 1000000 in
theorem fail_down (dp : Value) (keep torn : Int) (w : World) (h : DownIs w dp true) : Calls Tryz.prog 23 #[dp, .int .i64 keep, .int .i64 torn] w fun e w' => e = .returned (.tuple #[]) ∧ w' = w := by
  have HD := hid <| down_any dp true w h
  clear h
  go_enter Tryz.func23, Tryz.ntmps23
  go_wp2_with fail
  refine HD.out.mono ?_
  rintro e w1 ⟨rfl, rfl⟩
  go_wp2
  (try simp only [Exit.inBlock, Exit.then])
  exact bodyPost_ret (results_none rfl _ _ _) rfl ⟨rfl, rfl⟩

theorem AppliedTo.then {w w1 w1' w2 : World} {c c1 : Nat → Nat} {mc pb po : Nat} {cs : List Value} {t : TypeId} {A1 A2 : List (Bs × Bs)} {mo1 : Option Nat} (hk1 : Keep (fun k => k = pb ∨ c k = mc ∨ c k = 3) w w1) (hc1 : ∀ k, k < w.heap.size → c1 k = c k)
    (hk : Keep (fun _ => False) w1 w1') (h : AppliedTo w1' c1 mc pb po ((cs.set po (.map mo1)).set (po + 1) (.int .i64 (tot A1))) t A2 w2) : AppliedTo w c mc pb po cs t A2 w2 := by
  obtain ⟨mo', L', c', hr, hf, ht, hc, hk2⟩ := h
  have hs := hk1.size
  have hs2 := hk.size
  refine ⟨mo', L', c', by rw [set_ext] at hr; exact hr, hf, ht, fun k hk => by rw [hc k (by omega), hc1 k hk], (hk1.then hk (fun _ _ h => h.elim)).then hk2 fun j hj e => ?_⟩
  rwa [hc1 j hj] at e

/-- what the loop has done -/
theorem fail_loop {w wr : World} {c : Nat → Nat} {p : Nat} {R : Raw} {d : Ds} (h : DiskF w c p R d) (hM : d.wt + d.S.length + d.ws.length ≤ 70368744177664) {A : List (Bs × Bs)} (hA : Srt A ∧ tot A ≤ d.wt ∧ A.length ≤ d.S.length + d.ws.length) (ha : AppliedTo w c 2 p 2 (R.cs d) 124 A wr) :
    ∃ mo1 L1 c1, ApIn wr c1 2 p 2 (((R.cs d).set 2 (.map mo1)).set 3 (.int .i64 (tot A))) 124 mo1 L1 ∧ txts L1 = A ∧ L1.length + 1 < maxLen ∧ (∀ k, k < w.heap.size → c1 k = c k) ∧ Keep (fun k => k = p ∨ c k = 2 ∨ c k = 3) w wr ∧ wr.ownsRow 0 131 5 R.wv d.ws.length (chs d.ws) := by
  obtain ⟨mo1, L1, c1, hr, hf, ht, hc, hk⟩ := ha
  have hlen : L1.length = A.length := by rw [← ht]; simp [txts]
  have hp := h.row.lt
  refine ⟨mo1, L1, c1, ⟨hr, by simp [Raw.cs, dC], by rw [ht]; simp [Raw.cs, dC], hf, by decide, by rw [hc p hp, h.cp]; decide, by rw [hc p hp, h.cp]; decide, ?_⟩, ht, ?_, hc, hk, hk.ownsRow h.wrow fun g e hS => ?_⟩
  · rw [hlen]; unfold maxLen; omega
  · rw [hlen]; unfold maxLen; omega
  · have h4 := h.wcol g e
    rcases hS with rfl | e2 | e2
    · rw [h.cp] at h4; cases h4
    · omega
    · omega

theorem ApIn.recolor {w w' : World} {c c' : Nat → Nat} {mc pb po : Nat} {cs : List Value} {t : TypeId} {mo : Option Nat} {L : List (Bs × FV)} (h : ApIn w c mc pb po cs t mo L) (k : Keep (fun _ => False) w w') (hc : ∀ k, k < w.heap.size → c' k = c k) : ApIn w' c' mc pb po cs t mo L :=
  ⟨h.row.keep k (fun h => h), h.h0, h.h1, h.fil.keep k hc (fun _ h => h.elim), h.mc3, by rw [hc pb h.row.lt]; exact h.pb3, by rw [hc pb h.row.lt]; exact h.pbm, h.len⟩
theorem applied_wait {w wr : World} {c : Nat → Nat} {p : Nat} {R : Raw} {d : Ds} (h : DiskF w c p R d) {A : List (Bs × Bs)} (ha : AppliedTo w c 2 p 2 (R.cs d) 124 A wr) : wr.cell? ⟨p, 4, none⟩ = some R.wv ∧ wr.ownsRow 0 131 5 R.wv d.ws.length (chs d.ws) := by
  obtain ⟨mo1, L1, c1, hr, hf, ht, hc, hk⟩ := ha
  refine ⟨by rw [hr.cell]; simp [Raw.cs, dC], hk.ownsRow h.wrow fun g e hS => ?_⟩
  have h4 := h.wcol g e
  rcases hS with rfl | e2 | e2
  · rw [h.cp] at h4; cases h4
  · omega
  · omega

/-- a change lies in block b -/
def BoxIs (w : World) (b : Nat) (ch : Chg) : Prop := w.cell? ⟨b, 0, none⟩ = some (.int .i64 ch.kind) ∧ w.cell? ⟨b, 1, none⟩ = some (.string ⟨ch.name.toArray⟩) ∧ w.cell? ⟨b, 2, none⟩ = some (.string ⟨ch.to.toArray⟩) ∧ w.cell? ⟨b, 3, none⟩ = some (.string ⟨ch.s.toArray⟩) ∧ w.cell? ⟨b, 4, none⟩ = some (.int .i64 ch.long)
theorem box_new (w : World) (ch : Chg) : BoxIs (w.alloc (.cells #[.int .i64 ch.kind, .string ⟨ch.name.toArray⟩, .string ⟨ch.to.toArray⟩, .string ⟨ch.s.toArray⟩, .int .i64 ch.long] 131)) w.heap.size ch := by
  have h := fun j => ch_cell w ch.kind ⟨ch.name.toArray⟩ ⟨ch.to.toArray⟩ ⟨ch.s.toArray⟩ ch.long j
  exact ⟨h 0, h 1, h 2, h 3, h 4⟩
/-- one change of those that wait, whole or in its first bytes -/
theorem fail_step {w wr : World} {c : Nat → Nat} {p : Nat} {R : Raw} {d : Ds} (h : DiskF w c p R d) (hM : d.wt + d.S.length + d.ws.length ≤ 70368744177664) (torn : Int) (ad : Option Addr) (wc : Nat) (hwc : R.wv = .slice ad d.ws.length wc) (k : Nat) (hk : k < d.ws.length)
    (ha : AppliedTo w c 2 p 2 (R.cs d) 124 (replay (d.ws.take k) d.S) wr) : ∃ g, ad = some ⟨g, 0, none⟩ ∧ (∀ j, j < 5 → wr.cell? ⟨g, k * 5 + j, none⟩ = (chC (d.ws[k]))[j]?) ∧ wr.cell? ⟨p, 4, none⟩ = some (.slice ad d.ws.length wc) ∧
      (∀ W, Keep (fun _ => False) wr W → Calls Tryz.prog 69 #[.pointer (some ⟨p, 2, none⟩), cv (d.ws[k])] W fun e w' => e = .returned (.tuple #[]) ∧ (∀ g o, wr.heap.size ≤ g → g < W.heap.size → w'.cell? ⟨g, o, none⟩ = W.cell? ⟨g, o, none⟩) ∧ AppliedTo w c 2 p 2 (R.cs d) 124 (replay (d.ws.take (k + 1)) d.S) w') ∧
      ∀ W, Keep (fun _ => False) wr W → Calls Tryz.prog 70 #[.pointer (some ⟨p, 2, none⟩), cv (d.ws[k]), .int .i64 torn] W fun e w' => e = .returned (.tuple #[]) ∧ (∀ j, j < 5 → w'.cell? ⟨g, k * 5 + j, none⟩ = (chC (d.ws[k]))[j]?) ∧ w'.cell? ⟨p, 4, none⟩ = some (.slice ad d.ws.length wc) ∧ AppliedTo w c 2 p 2 (R.cs d) 124 (tearC (replay (d.ws.take k) d.S) (d.ws[k]) torn) w' := by
  have hS : Srt d.S := by rw [← h.eS]; exact srt_txts.2 h.sure.srt
  have hmv : ∀ ch ∈ d.ws, ch.kind = 2 → ch.to ≠ ch.name := fun ch hm => by obtain ⟨i, hi, rfl⟩ := List.getElem_of_mem hm; exact (h.oks i hi).move
  have hb := replay_bounds (d.ws.take k) d.S hS (fun ch hm => hmv ch (List.mem_of_mem_take hm))
  have hsum : ((d.ws.take k).map fun ch => ch.s.length).sum + (d.ws[k]).s.length ≤ (d.ws.map fun ch => ch.s.length).sum := by
    have e1 := List.take_append_drop k d.ws
    have e2 : (d.ws.map fun ch => ch.s.length).sum = ((d.ws.take k).map fun ch => ch.s.length).sum + ((d.ws.drop k).map fun ch => ch.s.length).sum := by rw [← List.sum_append, ← List.map_append, e1]
    rw [e2, List.drop_eq_getElem_cons hk, List.map_cons, List.sum_cons]
    omega
  have hwt : d.wt = tot d.S + (d.ws.map fun ch => ch.s.length).sum := rfl
  obtain ⟨mo1, L1, c1, hin, ht, hl, hc1, hk1, hrow⟩ := fail_loop h hM ⟨hb.1, by omega, by have := hb.2.2; rw [List.length_take] at this; omega⟩ ha
  obtain ⟨hw4, _⟩ := applied_wait h ha
  rw [hwc] at hw4
  have hrow' := hrow
  rw [hwc] at hrow'
  obtain ⟨g, hg, hcl⟩ := wait_cells hrow' k hk
  have hok : ChOk (txts L1) d.ws[k] := by rw [ht]; exact h.oks k hk
  refine ⟨g, hg, fun j hj => by rw [Nat.mul_comm]; exact hcl j hj, hw4, fun W hW => ?_, fun W hW => ?_⟩
  · have hin2 := hin.recolor (c' := fun k => if k < wr.heap.size then c1 k else 9) hW (fun k hk => if_pos hk)
    refine (apply_any p 2 _ _ mo1 L1 _ 2 _ W hin2 hok (by rw [ht]; omega) hl).mono fun e w' ⟨he, hA⟩ => ⟨he, ?_, ?_⟩
    · obtain ⟨_, _, _, _, _, _, _, hkA, _⟩ := hA
      intro g o h1 h2
      refine hkA.cell h2 ?_
      rintro (rfl | e | e)
      · have := hin.row.lt; omega
      · have := hin.molt g e; omega
      · have e' : (if g < wr.heap.size then c1 g else 9) = 3 := e
        rw [if_neg (by omega)] at e'; cases e'
    · have := AppliedTo.then hk1 (fun k hk => by rw [if_pos (Nat.lt_of_lt_of_le hk hk1.size)]; exact hc1 k hk) hW (hA.less hin2.fil.mcol)
      rw [ht] at this
      rw [List.take_succ_eq_append_getElem hk, replay_snoc]
      exact this
  · refine (tear_any p 2 _ _ mo1 L1 c1 2 _ torn W (hin.keepF hW) hok (by rw [ht]; omega) hl).mono fun e w' ⟨he, hA⟩ => ⟨he, ?_⟩
    have hT := AppliedTo.then hk1 hc1 hW hA
    rw [ht] at hT
    obtain ⟨h4, hrow2⟩ := applied_wait h hT
    rw [hwc] at h4 hrow2
    obtain ⟨g2, hg2, hcl2⟩ := wait_cells hrow2 k hk
    rw [hg] at hg2
    injection hg2 with e
    injection e with e
    subst e
    exact ⟨fun j hj => by rw [Nat.mul_comm]; exact hcl2 j hj, h4, hT⟩

theorem safe_self {w : World} {c : Nat → Nat} {mc : Nat} {mo : Option Nat} {L : List (Bs × FV)} (h : FilIs w c mc mo L) : ∀ y ∈ L, Safe L y.2.1 := by
  intro y hy x hx
  by_cases e : x.1 = y.1
  · have := srt_uniq h.srt hx hy e
    subst this
    intro g n1 c1 n2 c2 e1 e2 _
    rw [e1] at e2
    injection e2 with _ e3 _
    omega
  · exact apart_fits (h.apart x hx y hy e)

/-- what is, made anew of what is sure -/
theorem fail_end {w w2 : World} {c : Nat → Nat} {p : Nat} {R : Raw} {d : Ds} (h : DiskF w c p R d) {A : List (Bs × Bs)} (ha : AppliedTo w c 2 p 2 (R.cs d) 124 A w2) :
    Calls Tryz.prog 71 #[.pointer (some ⟨p, 2, none⟩)] w2 fun e w3 => ∃ mo3, e = .returned (.agg #[.map mo3, .int .i64 (tot A)]) ∧ w3.cell? ⟨p, 0, none⟩ = some (.map R.nmo) ∧ w3.cell? ⟨p, 1, none⟩ = some (.int .i64 (tot (txts R.N))) ∧ w3.cell? ⟨p, 4, none⟩ = some R.wv ∧ w3.cell? ⟨p, 9, none⟩ = some (.bool d.dn) ∧
      w3.frozen? ⟨p, 0, none⟩ = false ∧ w3.frozen? ⟨p, 1, none⟩ = false ∧ w3.frozen? ⟨p, 4, none⟩ = false ∧ w3.frozen? ⟨p, 9, none⟩ = false ∧
      (∃ c', DiskIs ((((w3.setCell ⟨p, 0, none⟩ (.map mo3)).setCell ⟨p, 1, none⟩ (.int .i64 (tot A))).setCell ⟨p, 4, none⟩ (.slice none 0 0)).setCell ⟨p, 9, none⟩ (.bool true)) c' p { d with S := A, ws := [], dn := true } ∧ ∀ k, k < w.heap.size → c' k = c k) ∧
      Keep (fun k => c k < 6) w ((((w3.setCell ⟨p, 0, none⟩ (.map mo3)).setCell ⟨p, 1, none⟩ (.int .i64 (tot A))).setCell ⟨p, 4, none⟩ (.slice none 0 0)).setCell ⟨p, 9, none⟩ (.bool true)) := by
  obtain ⟨mo2, L2, c2, hr, hf, ht, hc, hk⟩ := ha
  have hp := h.row.lt
  have hs := hk.size
  refine (fsame_any p 2 _ _ mo2 (tot A : Nat) (vals L2) w2 hr (by simp [Raw.cs, dC]) (by simp [Raw.cs, dC]) hf.map).mono fun e w3 ⟨mo3, he, hm3, hk3, hb3⟩ => ?_
  have hr3 := hr.keep hk3 (fun h => h)
  have hs3 := hk3.size
  have hc2p : c2 p = 0 := by rw [hc p hp]; exact h.cp
  have hm3lt : ∀ b, mo3 = some b → b < w3.heap.size := fun b e => by
    rcases hm3 with ⟨h0, _⟩ | ⟨b', h0, hm⟩
    · rw [h0] at e; cases e
    · rw [h0] at e; injection e with e; subst e; exact hm.lt
  refine ⟨mo3, he, by rw [hr3.cell]; simp [Raw.cs, dC], by rw [hr3.cell]; simp [Raw.cs, dC], by rw [hr3.cell]; simp [Raw.cs, dC], by rw [hr3.cell]; simp [Raw.cs, dC], hr3.frozen, hr3.frozen, hr3.frozen, hr3.frozen, ?_⟩
  have hr4 := (((hr3.set 0 (.map mo3)).set 1 (.int .i64 (tot A))).set 4 (.slice none 0 0)).set 9 (.bool true)
  have k4 : Keep (· = p) w3 ((((w3.setCell ⟨p, 0, none⟩ (.map mo3)).setCell ⟨p, 1, none⟩ (.int .i64 (tot A))).setCell ⟨p, 4, none⟩ (.slice none 0 0)).setCell ⟨p, 9, none⟩ (.bool true)) :=
    (((keep_setCell _ _ _ _).trans (keep_setCell _ _ _ _)).trans (keep_setCell _ _ _ _)).trans (keep_setCell _ _ _ _)
  generalize ((((w3.setCell ⟨p, 0, none⟩ (.map mo3)).setCell ⟨p, 1, none⟩ (.int .i64 (tot A))).setCell ⟨p, 4, none⟩ (.slice none 0 0)).setCell ⟨p, 9, none⟩ (.bool true)) = w4 at hr4 k4 ⊢
  have kA : Keep (fun k => k = p ∨ c k = 2 ∨ c k = 3) w w4 := (hk.then hk3 (fun _ _ h => h.elim)).then k4 (fun j _ e => .inl e)
  have hs4 := k4.size
  have k24 : Keep (· = p) w2 w4 := (hk3.mono (fun _ _ h => h.elim)).trans k4
  refine ⟨⟨fun k => if mo3 = some k then 1 else c2 k, ⟨⟨mo3, mo2, L2, L2, .slice none 0 0, R.fm⟩, ?_⟩, fun k hk => ?_⟩, kA.mono fun k _ e => by have hcp := h.cp; rcases e with rfl | e | e <;> omega⟩
  · have hcol : ∀ k, k < w2.heap.size → (if mo3 = some k then 1 else c2 k) = c2 k := fun k hk => if_neg (fun e => by have := hb3 k e; omega)
    have hsure : FilIs w4 (fun k => if mo3 = some k then 1 else c2 k) 2 mo2 L2 := hf.keep' k24 hcol (fun j _ e => by rw [e, hc2p]; decide)
    refine ⟨?_, ?_, ⟨k4.mapV hm3 (fun b e e2 => ?_), fun b e => if_pos e, hsure.row, hsure.col, hsure.apart, hsure.srt⟩, hsure, ht, ht, safe_self hsure, ⟨rfl, .inl ⟨rfl, rfl⟩⟩, fun g e => by simp [Value.ownBlock] at e, ?_, fun m _ => rfl, fun i hi => by simp at hi, fun _ => rfl, fun y hy _ x hx hxy g e => hsure.apart x hx y hy hxy g e⟩
    · have e : ((((((R.cs d).set 2 (.map mo2)).set 3 (.int .i64 (tot A))).set 0 (.map mo3)).set 1 (.int .i64 (tot A))).set 4 (.slice none 0 0)).set 9 (.bool true) = Raw.cs ⟨mo3, mo2, L2, L2, .slice none 0 0, R.fm⟩ { d with S := A, ws := [], dn := true } := by
        simp [Raw.cs, dC, ht]
      rw [← e]; exact hr4
    · show (if mo3 = some p then 1 else c2 p) = 0
      rw [hcol p (by omega)]; exact hc2p
    · have := hb3 b e
      omega
    · refine (h.fall.keep hk hc (fun j hj e => ?_)).keep k24 hcol (fun j hj e => by rw [e, hc2p]; decide)
      rcases e with rfl | e | e
      · rw [h.cp]; decide
      · omega
      · omega
  · show (if mo3 = some k then 1 else c2 k) = c k
    rw [if_neg (fun e => by have := hb3 k e; omega)]; exact hc k hk

set_option maxRecDepth 100000 in
set_option maxHeartbeats 4000000 in
theorem fail_up (p : Nat) (c : Nat → Nat) (R : Raw) (d : Ds) (keep torn : Int) (w : World) (h : DiskF w c p R d) (hdn : d.dn = false) (hM : d.wt + d.S.length + d.ws.length ≤ 70368744177664) :
    Calls Tryz.prog 23 #[.pointer (some ⟨p, 0, none⟩), .int .i64 keep, .int .i64 torn] w fun e w' => e = .returned (.tuple #[]) ∧ (∃ c', DiskIs w' c' p (failD d keep torn) ∧ ∀ k, k < w.heap.size → c' k = c k) ∧ Keep (fun k => c k < 6) w w' := by
  obtain ⟨wv0, hwv⟩ : ∃ v, v = R.wv := ⟨_, rfl⟩
  obtain ⟨ad, cap, had, hsl⟩ := slice_to h.wrow (k := keepN d keep) (Nat.min_le_right _ _)
  obtain ⟨wc, hwc⟩ := had _ rfl
  have cc := fun o v hv => h.row.cellAt (o := o) (v := v) hv
  have d4 := cc 4 _ rfl
  have d9 := cc 9 _ rfl
  rw [hwc] at d4 hsl
  rw [hdn] at d9
  have HD := hid <| down_any (.pointer (some ⟨p, 0, none⟩)) false w (.inr ⟨p, rfl, d9⟩)
  have hkk : keepN d keep ≤ d.ws.length := Nat.min_le_right _ _
  obtain ⟨kp, hmx⟩ : ∃ kp : Int, (if keep < 0 then 0 else keep) = kp := ⟨_, rfl⟩
  have hmin : (if ((d.ws.length : Nat) : Int) < kp then ((d.ws.length : Nat) : Int) else kp) = ((keepN d keep : Nat) : Int) := by
    unfold keepN; rw [← hmx]; split <;> split at * <;> omega
  have hlen : d.ws.length ≤ 70368744177664 := by omega
  have H := hid h
  have HK := hid hdn
  generalize hkN : keepN d keep = kn at *
  clear h hdn
  go_enter Tryz.func23, Tryz.ntmps23
  go_wp2_with fail
  refine HD.out.mono ?_
  rintro e w1 ⟨rfl, rfl⟩
  clear HD
  have HL : Hid (∀ (k : Nat) (hk : k < d.ws.length) (wr : World), AppliedTo w1 c 2 p 2 (R.cs d) 124 (replay (d.ws.take k) d.S) wr → _) := fun k hk wr ha => fail_step H.out hM torn ad wc hwc k hk ha
  have H0 : Hid (AppliedTo w1 c 2 p 2 (R.cs d) 124 (replay (d.ws.take 0) d.S) w1) := by
    have h := H.out
    exact ⟨R.smo, R.SL, c, by rw [List.take_zero, show replay [] d.S = d.S from rfl, ← h.eS, set_same (by simp [Raw.cs, dC]), set_same (by simp [Raw.cs, dC])]; exact h.row, h.sure, h.eS, fun _ _ => rfl, Keep.refl _ _⟩
  clear hwv had cc hM
  go_wp2
  go_loopw [25] (fun i wr => ∃ k : Nat, k ≤ kn ∧ i = .int .i64 k ∧ Hid (AppliedTo w1 c 2 p 2 (R.cs d) 124 (replay (d.ws.take k) d.S) wr)) (fun i _ => kn - (intOf i).toNat)
  case atStart => exact ⟨0, by omega, rfl, H0⟩
  case round =>
    clear H0 hsl
    obtain ⟨k, hk, rfl, HA⟩ := hrel
    by_cases hlt : k < kn
    · have hk0 : (0 : Int) ≤ (k : Int) := by omega
      have hk1 : (k : Int) < (kn : Int) := by omega
      obtain ⟨g, hg, hcl, _, HAP, _⟩ := HL.out k (by omega) wr HA.out
      have AP := hid HAP
      have c0 := hcl 0 (by omega)
      have c1 := hcl 1 (by omega)
      have c2 := hcl 2 (by omega)
      have c3 := hcl 3 (by omega)
      have c4 := hcl 4 (by omega)
      clear hcl HAP
      generalize d.ws[k] = ch at *
      unfold cv chV at AP
      simp only [chC, List.getElem?_cons_zero, List.getElem?_cons_succ, Nat.add_zero] at c0 c1 c2 c3 c4
      subst hg
      clear HA HL d4 d9 hmx hmin hkN HK H hwc
      have HK1 : Hid (∀ X, Keep (fun _ => False) wr (wr.alloc X) ∧ wr.heap.size < (wr.alloc X).heap.size) := fun X => ⟨keep_alloc _ _ _, by simp⟩
      have HK2 : Hid (∀ X, Keep (fun _ => False) wr (wr.alloc X).drew ∧ wr.heap.size < (wr.alloc X).drew.heap.size) := fun X => ⟨(keep_alloc _ _ _).trans (keep_drew _ _), by show _ < (wr.heap.push _).size; simp⟩
      have AP2 : Hid (∀ W, Keep (fun _ => False) wr W ∧ wr.heap.size < W.heap.size → BoxIs W wr.heap.size ch → Calls Tryz.prog 69 #[.pointer (some ⟨p, 2, none⟩), .agg #[.int .i64 ch.kind, .string ⟨ch.name.toArray⟩, .string ⟨ch.to.toArray⟩, .string ⟨ch.s.toArray⟩, .int .i64 ch.long]] W fun e w' => e = .returned (.tuple #[]) ∧ BoxIs w' wr.heap.size ch ∧ AppliedTo w1 c 2 p 2 (R.cs d) 124 (replay (d.ws.take (k + 1)) d.S) w') := by
        intro W hW hb
        refine (AP.out W hW.1).mono fun e w' ⟨he, hc, hA⟩ => ⟨he, ?_, hA⟩
        unfold BoxIs at hb ⊢
        rw [hc _ _ (Nat.le_refl _) hW.2, hc _ _ (Nat.le_refl _) hW.2, hc _ _ (Nat.le_refl _) hW.2, hc _ _ (Nat.le_refl _) hW.2, hc _ _ (Nat.le_refl _) hW.2]
        exact hb
      have HBX : Hid (BoxIs (wr.alloc (.cells #[.int .i64 ch.kind, .string ⟨ch.name.toArray⟩, .string ⟨ch.to.toArray⟩, .string ⟨ch.s.toArray⟩, .int .i64 ch.long] 131)) wr.heap.size ch) := box_new _ _
      have HBX2 : Hid (BoxIs (wr.alloc (.cells #[.int .i64 ch.kind, .string ⟨ch.name.toArray⟩, .string ⟨ch.to.toArray⟩, .string ⟨ch.s.toArray⟩, .int .i64 ch.long] 131)).drew wr.heap.size ch) := box_new wr ch
      unfold BoxIs at AP2 HBX HBX2
      clear AP
      go_wp2
      go_region_held3 (fun w' => w'.cell? ⟨wr.heap.size, 0, none⟩ = some (.int .i64 ch.kind) ∧ w'.cell? ⟨wr.heap.size, 1, none⟩ = some (.string ⟨ch.name.toArray⟩) ∧ w'.cell? ⟨wr.heap.size, 2, none⟩ = some (.string ⟨ch.to.toArray⟩) ∧ w'.cell? ⟨wr.heap.size, 3, none⟩ = some (.string ⟨ch.s.toArray⟩) ∧ w'.cell? ⟨wr.heap.size, 4, none⟩ = some (.int .i64 ch.long)) (first | exact HBX.out | exact HBX2.out | exact hbx | go_keep) ((go_at_call 69; with_reducible (refine (AP2.out _ ?_ ?_).mono ?_); (first | exact HK1.out _ | exact HK2.out _); (first | exact HBX.out | exact HBX2.out); rintro e w2 ⟨rfl, hbx, hA⟩))
      all_goals
        have HA := hid hA
        clear hA
        go_wp2
        exact ⟨⟨k + 1, by omega, by go_num, HA⟩, by simp [intOf]; omega⟩
    · have hd : decide ((k : Int) < (kn : Int)) = false := decide_eq_false (by omega)
      obtain rfl : k = kn := by omega
      have FIN : Hid (∀ A w2, AppliedTo w1 c 2 p 2 (R.cs d) 124 A w2 → _) := fun A w2 ha => fail_end H.out ha
      have d4r := (applied_wait H.out HA.out).1
      rw [hwc] at d4r FIN
      have HFD : Hid (failD d keep torn = { d with S := failS d keep torn, ws := [], dn := true }) := by show _ = _; unfold failD; rw [HK.out]; rfl
      by_cases hlt2 : k < d.ws.length
      · have hk0 : (0 : Int) ≤ (k : Int) := by omega
        have hk1 : (k : Int) < (d.ws.length : Int) := by omega
        obtain ⟨g, hg, hcl, _, _, HTE⟩ := HL.out k hlt2 wr HA.out
        have HFS : Hid (failS d keep torn = tearC (replay (d.ws.take k) d.S) d.ws[k] torn) := by
          show _ = _
          unfold failS
          rw [hkN, List.getElem?_eq_getElem hlt2]
        have TE := hid HTE
        have c0 := hcl 0 (by omega)
        have c1 := hcl 1 (by omega)
        have c2 := hcl 2 (by omega)
        have c3 := hcl 3 (by omega)
        have c4 := hcl 4 (by omega)
        clear hcl HTE
        generalize d.ws[k] = ch at *
        unfold cv chV at TE
        simp only [chC, List.getElem?_cons_zero, List.getElem?_cons_succ, Nat.add_zero] at c0 c1 c2 c3 c4
        subst hg
        rw [HFS.out] at HFD
        have TE2 : Hid (∀ W, Keep (fun _ => False) wr W → Calls Tryz.prog 70 #[.pointer (some ⟨p, 2, none⟩), .agg #[.int .i64 ch.kind, .string ⟨ch.name.toArray⟩, .string ⟨ch.to.toArray⟩, .string ⟨ch.s.toArray⟩, .int .i64 ch.long], .int .i64 torn] W fun e w' => e = .returned (.tuple #[]) ∧
            (w'.cell? ⟨p, 4, none⟩ = some (.slice (some ⟨g, 0, none⟩) d.ws.length wc) ∧ w'.cell? ⟨g, k * 5, none⟩ = some (.int .i64 ch.kind) ∧ w'.cell? ⟨g, k * 5 + 1, none⟩ = some (.string ⟨ch.name.toArray⟩) ∧ w'.cell? ⟨g, k * 5 + 2, none⟩ = some (.string ⟨ch.to.toArray⟩) ∧ w'.cell? ⟨g, k * 5 + 3, none⟩ = some (.string ⟨ch.s.toArray⟩) ∧ w'.cell? ⟨g, k * 5 + 4, none⟩ = some (.int .i64 ch.long)) ∧ AppliedTo w1 c 2 p 2 (R.cs d) 124 (tearC (replay (d.ws.take k) d.S) ch torn) w') := by
          intro W hW
          refine (TE.out W hW).mono fun e w' ⟨he, hc, h4, hA⟩ => ⟨he, ⟨h4, ?_, ?_, ?_, ?_, ?_⟩, hA⟩
          · exact hc 0 (by omega)
          · exact hc 1 (by omega)
          · exact hc 2 (by omega)
          · exact hc 3 (by omega)
          · exact hc 4 (by omega)
        generalize tearC (replay (d.ws.take k) d.S) ch torn = A at *
        have HK1 : Hid (Keep (fun _ => False) wr wr) := Keep.refl _ _
        have HK2 : Hid (Keep (fun _ => False) wr wr.drew) := keep_drew _ _
        clear HA HL d4 d9 hmx hmin hkN HK H hwc HFS TE
        go_wp2
        go_region_held3 (fun w' => w'.cell? ⟨p, 4, none⟩ = some (.slice (some ⟨g, 0, none⟩) d.ws.length wc) ∧ w'.cell? ⟨g, k * 5, none⟩ = some (.int .i64 ch.kind) ∧ w'.cell? ⟨g, k * 5 + 1, none⟩ = some (.string ⟨ch.name.toArray⟩) ∧ w'.cell? ⟨g, k * 5 + 2, none⟩ = some (.string ⟨ch.to.toArray⟩) ∧ w'.cell? ⟨g, k * 5 + 3, none⟩ = some (.string ⟨ch.s.toArray⟩) ∧ w'.cell? ⟨g, k * 5 + 4, none⟩ = some (.int .i64 ch.long)) (first | exact ⟨d4r, c0, c1, c2, c3, c4⟩ | exact hbx | go_keep) ((go_at_call 70; with_reducible (refine (TE2.out _ ?_).mono ?_); (first | exact HK1.out | exact HK2.out); rintro e w2 ⟨rfl, hbx, hA⟩))
        all_goals
          have SM := hid (FIN.out _ _ hA)
          clear hA hbx FIN TE2
          go_wp2_with fail
          refine SM.out.mono ?_
          rintro e w3 ⟨mo3, rfl, e0, e1, e4, e9, f0, f1, f4, f9, hD, hK⟩
          have HD := hid hD
          have HKK := hid hK
          clear hD hK SM
          go_wp2
          go_end0
          exact ⟨rfl, by rw [HFD.out]; exact HD.out, HKK.out⟩
      · have hd2 : decide ((k : Int) < (d.ws.length : Int)) = false := decide_eq_false (by omega)
        have HFS : Hid (failS d keep torn = replay (d.ws.take k) d.S) := by
          show _ = _
          unfold failS
          rw [hkN, List.getElem?_eq_none (by omega)]
        rw [HFS.out] at HFD
        have SM := hid (FIN.out _ _ HA.out)
        clear HA HL d4 d9 hmx hmin hkN HK H hwc HFS FIN
        go_wp2_with fail
        refine SM.out.mono ?_
        rintro e w3 ⟨mo3, rfl, e0, e1, e4, e9, f0, f1, f4, f9, hD, hK⟩
        have HD := hid hD
        have HKK := hid hK
        clear hD hK SM
        go_wp2
        go_end0
        exact ⟨rfl, by rw [HFD.out]; exact HD.out, HKK.out⟩
end Go.Proofs.YtefbioainibmaaaGreatDoor
