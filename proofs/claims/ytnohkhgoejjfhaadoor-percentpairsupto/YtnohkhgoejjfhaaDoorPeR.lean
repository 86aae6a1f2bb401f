/- A range over strings.SplitSeq at a sign of one byte, for a body that goes on or returns: the iterator's own text lies in a box that it turns between two rounds. -/
import Derived.Test.YtnohkhgoejjfhaaDoorPeS
namespace Go.Proofs.YtnohkhgoejjfhaaDoor
open Go.RowKit Go.Shelf
set_option linter.unusedVariables false
set_option linter.unusedSimpArgs false

/-- how a round may be left: it goes on, or it returns; the loop's two blocks (from B on) are as they were -/
def RdP (B : Nat) (I : ByteArray → World → Prop) (Ix : World → Prop) (s : ByteArray) (W : World) : Exit → Act → World → Prop
  | .normal, _, W' => (W'.heap[B]? = W.heap[B]? ∧ W'.heap[B + 1]? = W.heap[B + 1]?) ∧ I s W'
  | .ret, _, W' => (W'.heap[B]? = W.heap[B]? ∧ W'.heap[B + 1]? = W.heap[B + 1]?) ∧ Ix W'
  | _, _, _ => False
/-- the mark that a loop leaves with the call -/
def mkD (a : Act) (B : Nat) : Act := { a with defers := { target := .collected B, args := #[] } :: a.defers }

theorem range_split (b : UInt8) (n h : Nat) (h1 : 1 ≤ n) {g : Operand} {p : Tmp} {assign body : Code} {Q : Exit → Act → World → Prop} {a : Act} {w : World}
    (hg : a.eval g = .func (.func 57) #[] #[.pointer (some ⟨h + 1, 0, none⟩), .pointer (some ⟨h, 0, none⟩), .pointer (some ⟨h + 2, 0, none⟩)]) (hh : h < w.heap.size)
    (I : List ByteArray → ByteArray → World → Prop) (Ix : List ByteArray → World → Prop) (a₁ : ByteArray → Act) (s0 : ByteArray) (hs0 : s0.size ≤ 1048576)
    (hc : ∀ pre s W, I pre s W → W.cell? ⟨h, 0, none⟩ = some (.string s) ∧ W.frozen? ⟨h, 0, none⟩ = false ∧ W.cell? ⟨h + 1, 0, none⟩ = some (.string ⟨#[b]⟩) ∧ W.cell? ⟨h + 2, 0, none⟩ = some (.int .i64 0))
    (hst : ∀ pre s s' W, I pre s W → I pre s' (W.setCell ⟨h, 0, none⟩ (.string s')))
    (h0 : ∀ o, I [] s0 ((w.alloc (.deferred (some []))).alloc o))
    (hput : ∀ pre s W o, I pre s W → I pre s (W.putObj (w.heap.size + 1) o)) (hputx : ∀ pre W o, Ix pre W → Ix pre (W.putObj (w.heap.size + 1) o))
    (hassign : ∀ (l : Nat) (x : ByteArray) (W : World) (K : Act → World → Prop), K (a₁ x) W → assign.wpIn (Fence.wide.inRound l) (n - 1 - 1) Tryd.prog (Exit.then K (fun _ _ _ => False)) { tmps := a.tmps.setIfInBounds p (.string x), defers := [] } W)
    (hbody : ∀ (l : Nat) (pre : List ByteArray) (x s : ByteArray) (W : World), x.size ≤ 1048576 → (pre ++ [x]) <+: ptsB b s0 → w.heap.size + 1 < W.heap.size → I pre s W → body.wpIn (Fence.wide.inRound l) (n - 1 - 1) Tryd.prog (RdP w.heap.size (I (pre ++ [x])) (Ix (pre ++ [x])) s W) (a₁ x) W)
    (hdone : ∀ s W, I (ptsB b s0) s W → W.heap[w.heap.size]? = some (.deferred (some [])) → Q .normal (mkD a w.heap.size) W)
    (hstop : ∀ pre W, pre <+: ptsB b s0 → Ix pre W → W.heap[w.heap.size]? = some (.deferred (some [])) → Code.ret.wpIn Fence.wide n Tryd.prog Q (mkD a w.heap.size) W) :
    (Code.rangeFunc g #[p] assign body).wpIn Fence.wide n Tryd.prog Q a w := by
  refine wpIn_rangeFunc fun fn hfn => ?_
  let rec0 : LoopState → Option Code → Loop := fun st pe => { state := st, pending := pe, fn, tmps := a.tmps, params := #[p], assign, body, defers := w.heap.size }
  have hrec : ∀ st pe, rec0 st pe = { state := st, pending := pe, fn, tmps := a.tmps, params := #[p], assign, body, defers := w.heap.size } := fun _ _ => rfl
  let J : List ByteArray → ByteArray → World → Prop := fun pre s W => I pre s W ∧ W.heap[w.heap.size + 1]? = some (.loop (rec0 .ready none)) ∧ W.heap[w.heap.size]? = some (.deferred (some []))
  let Jx : List ByteArray → World → Prop := fun pre W => Ix pre W ∧ W.heap[w.heap.size + 1]? = some (.loop (rec0 .done (some .ret))) ∧ W.heap[w.heap.size]? = some (.deferred (some []))
  have hlt1 : ∀ {W : World} {o : Obj}, W.heap[w.heap.size + 1]? = some o → w.heap.size + 1 < W.heap.size := fun e => (Array.getElem?_eq_some_iff.1 e).1
  have hb1 : ((w.alloc (.deferred (some []))).alloc (.loop (rec0 .ready none))).heap[w.heap.size + 1]? = some (.loop (rec0 .ready none)) := by
    have := World.alloc_heap_new (w.alloc (.deferred (some []))) (.loop (rec0 .ready none))
    rwa [World.size_alloc] at this
  have hb2 : ((w.alloc (.deferred (some []))).alloc (.loop (rec0 .ready none))).heap[w.heap.size]? = some (.deferred (some [])) :=
    (Below.heap_alloc _ _ _ (by simp)).trans (World.alloc_heap_new w _)
  refine ⟨w.heap.size + 1, [{ target := .collected w.heap.size, args := #[] }], _, { target := .fn (.func 57) #[.pointer (some ⟨h + 1, 0, none⟩), .pointer (some ⟨h, 0, none⟩), .pointer (some ⟨h + 2, 0, none⟩)], args := #[.func (.yield (w.heap.size + 1)) #[] #[]] }, (w.alloc (.deferred (some []))).alloc (.loop (rec0 .ready none)), 57, #[.func (.yield (w.heap.size + 1)) #[] #[], .pointer (some ⟨h + 1, 0, none⟩), .pointer (some ⟨h, 0, none⟩), .pointer (some ⟨h + 2, 0, none⟩)], (w.alloc (.deferred (some []))).alloc (.loop (rec0 .ready none)), run_enterLoop_outer _ _ _ _ _, ?_, fun _ _ => trivial, ?_, wide_d, ?_⟩
  · simp only [resolve, hg]
    simp [go_sem, hrec]
  · simp [invoke, go_sem]
  · refine (split1_in b (n - 1) (w.heap.size + 1) h (ptsB b s0) J Jx (fun pre s W hj => hc pre s W hj.1) ?_ ?_ s0 _ hs0 rfl ⟨h0 _, hb1, hb2⟩).mono ?_
    · rintro pre s s' W ⟨hi, hl, hk⟩
      exact ⟨hst pre s s' W hi, (Below.heap_setCell _ _ _ _ (by show _ ≠ h; omega)).trans hl, (Below.heap_setCell _ _ _ _ (by show _ ≠ h; omega)).trans hk⟩
    · -- one round
      rintro pre x s W hx hpx ⟨hi, hl, hk⟩
      have hy := run_yield (P := Tryd.prog) (args := #[.string x]) hl rfl
      refine ⟨fn, _, assign, body, hy, roundIn_of_wpIn hfn ?_⟩
      have ht : ((rec0 .ready none).params.zip #[Value.string x]).foldl (fun tmps (t, a) => tmps.setIfInBounds t a) (rec0 .ready none).tmps = a.tmps.setIfInBounds p (.string x) := by simp [rec0]
      rw [ht]
      refine hassign (w.heap.size + 1) x W _ ?_
      refine ⟨_, run_beginRound hl rfl, ?_⟩
      have hlt := hlt1 hl
      have hl2 : (W.putObj (w.heap.size + 1) (.loop { rec0 .ready none with state := .busy })).heap[w.heap.size + 1]? = some (.loop { rec0 .ready none with state := .busy }) := World.putObj_heap_same hlt
      have hk2 : (W.putObj (w.heap.size + 1) (.loop { rec0 .ready none with state := .busy })).heap[w.heap.size]? = some (.deferred (some [])) := (World.putObj_heap_other (by omega)).trans hk
      refine wpIn_mono (hbody (w.heap.size + 1) pre x s _ hx hpx (by rw [World.putObj_size]; exact hlt) (hput pre s W _ hi)) ?_
      rintro e a3 W3 hp
      cases e with
      | normal =>
        obtain ⟨⟨e1, e2⟩, hi3⟩ := hp
        have hl3 := e2.trans hl2
        refine ⟨_, _, run_endRound (P := Tryd.prog) none hl3, .inl ⟨rfl, hput _ _ _ _ hi3, World.putObj_heap_same (hlt1 hl3), (World.putObj_heap_other (by omega)).trans (e1.trans hk2)⟩⟩
      | ret =>
        obtain ⟨⟨e1, e2⟩, hi3⟩ := hp
        have hl3 := e2.trans hl2
        refine ⟨_, _, run_endRound (P := Tryd.prog) (some .ret) hl3, .inr ⟨rfl, hputx _ _ _ hi3, World.putObj_heap_same (hlt1 hl3), (World.putObj_heap_other (by omega)).trans (e1.trans hk2)⟩⟩
      | exit id => exact hp.elim
      | goto t => exact hp.elim
      | panic ch => exact hp.elim
      | outgrown => exact hp.elim
    · -- behind the iterator
      rintro e W2 ⟨⟨v, rfl⟩, (⟨s, hi, hl, hk⟩ | ⟨pre, hp, hi, hl, hk⟩)⟩
      · exact ⟨none, _, run_endLoop (P := Tryd.prog) hl (by rw [hrec]; simp), hdone s _ (hput _ _ _ _ hi) ((World.putObj_heap_other (by omega)).trans hk)⟩
      · exact ⟨some .ret, _, run_endLoop (P := Tryd.prog) hl (by rw [hrec]; simp), hstop pre _ hp (hputx _ _ _ hi) ((World.putObj_heap_other (by omega)).trans hk)⟩
end Go.Proofs.YtnohkhgoejjfhaaDoor
