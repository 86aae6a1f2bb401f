/- A disk in the midst of a change. -/
import Derived.Test.YtnlodlpjokkepabStrikeW
namespace Go.Proofs.Ytnlodlpjokkepab
open Go.RowKit Go.Maps
set_option linter.unusedVariables false
set_option linter.unusedSimpArgs false

/-- the change waits already; the files that are, are as they were -/
structure ChMid (w : World) (c : Nat → Nat) (p : Nat) (R : Raw) (d : Ds) (ch : Chg) (v1 : Value) (wM : World) : Prop where
  row : RowIs wM p ((R.cs d).set 4 v1) 73
  keep : Keep (fun k => k = p ∨ c k = 4) w wM
  wrow : wM.ownsRow 0 86 5 v1 (d.ws.length + 1) (chs (d.ws ++ [ch]))
  loc : v1.ownBlock = R.wv.ownBlock ∨ ∃ g, v1.ownBlock = some g ∧ w.heap.size < g
  box : RowIs wM w.heap.size (chC ch) 86
def midC (c : Nat → Nat) (w : World) (v1 : Value) (k : Nat) : Nat := if k < w.heap.size then c k else if v1.ownBlock = some k then 4 else 9
def Ds.more (d : Ds) (ch : Chg) : Ds := { d with ws := d.ws ++ [ch] }
def Raw.more (R : Raw) (v1 : Value) : Raw := { R with wv := v1 }

section
variable {w wM W : World} {c : Nat → Nat} {p : Nat} {R : Raw} {d : Ds} {ch : Chg} {v1 : Value}
theorem midC_lt {k : Nat} (hk : k < w.heap.size) : midC c w v1 k = c k := if_pos hk
theorem ChMid.wcol (h : DiskR w c p R d) (m : ChMid w c p R d ch v1 wM) : ∀ g, v1.ownBlock = some g → midC c w v1 g = 4 := by
  intro g e
  rcases m.loc with h1 | ⟨g', h1, h2⟩
  · have hg := ownsRow_lt h.wrow (h1 ▸ e)
    rw [midC_lt hg]; exact h.wcol g (h1 ▸ e)
  · rw [h1] at e; injection e with e
    unfold midC
    rw [if_neg (by omega), if_pos (by rw [h1, e])]
theorem mid_oks (h : DiskR w c p R d) (hok : ChOk d.now ch) : ∀ i (hi : i < (d.more ch).ws.length), ChOk (replay ((d.more ch).ws.take i) d.S) (d.more ch).ws[i] := by
  intro i hi
  have hl : (d.more ch).ws = d.ws ++ [ch] := rfl
  simp only [hl, List.length_append, List.length_singleton] at hi ⊢
  by_cases hlt : i < d.ws.length
  · have e1 : (d.ws ++ [ch]).take i = d.ws.take i := List.take_append_of_le_length (by omega)
    rw [e1, List.getElem_append_left hlt]
    exact h.oks i hlt
  · have e : i = d.ws.length := by omega
    subst e
    rw [List.take_append_of_le_length (Nat.le_refl _), List.take_of_length_le (Nat.le_refl _), List.getElem_append_right (Nat.le_refl _)]
    simp only [Nat.sub_self, List.getElem_cons_zero]
    exact hok
theorem ChMid.kp (h : DiskR w c p R d) {j : Nat} (hs : j = p ∨ c j = 4) : c j = 0 ∨ c j = 4 := by
  rcases hs with rfl | e
  · exact .inl h.cp
  · exact .inr e
theorem ChMid.f (h : DiskR w c p R d) (m : ChMid w c p R d ch v1 wM) (hok : ChOk d.now ch) (k : Keep (fun _ => False) wM W) : DiskF W (midC c w v1) p (R.more v1) (d.more ch) := by
  have K := m.keep.then k (fun _ _ h => h.elim)
  have hcl : (d.more ch).ws.length = d.ws.length + 1 := by simp [Ds.more]
  refine ⟨?_, by rw [midC_lt h.row.lt]; exact h.cp, h.sure.keep' K (fun k hk => midC_lt hk) (fun j _ hs => by have := ChMid.kp h hs; omega), h.eS, ?_, m.wcol h, h.fall.keep K (fun k hk => midC_lt hk) (fun j _ hs => by have := ChMid.kp h hs; omega), mid_oks h hok⟩
  · have e : (R.cs d).set 4 v1 = (R.more v1).cs (d.more ch) := by simp [Raw.cs, dC, Raw.more, Ds.more]
    rw [← e]; exact m.row.keep k (fun h => h)
  · rw [hcl]; exact k.ownsRow m.wrow (fun _ _ h => h)
theorem ChMid.ap (h : DiskR w c p R d) (m : ChMid w c p R d ch v1 wM) (k : Keep (fun _ => False) wM W) (hlen : R.N.length < maxLen) : ApIn W (midC c w v1) 1 p 0 ((R.cs d).set 4 v1) 73 R.nmo R.N := by
  have K := m.keep.then k (fun _ _ h => h.elim)
  have hp : midC c w v1 p = 0 := by rw [midC_lt h.row.lt]; exact h.cp
  exact ⟨m.row.keep k (fun h => h), by simp [Raw.cs, dC], by simp [Raw.cs, dC], h.now.keep' K (fun k hk => midC_lt hk) (fun j _ hs => by have := ChMid.kp h hs; omega), by decide, by rw [hp]; decide, by rw [hp]; decide, hlen⟩

theorem ChMid.done (h : DiskR w c p R d) (m : ChMid w c p R d ch v1 wM) (hok : ChOk d.now ch) (k : Keep (fun _ => False) wM W) {w6 : World} (ha : Applied W (midC c w v1) 1 p 0 ((R.cs d).set 4 v1) 73 R.nmo R.N ch w6) :
    w6.cell? ⟨p, 5, none⟩ = some (.int .i64 d.n) ∧ w6.frozen? ⟨p, 5, none⟩ = false ∧ (∀ o, w6.cell? ⟨w.heap.size, o, none⟩ = W.cell? ⟨w.heap.size, o, none⟩) ∧
      (∃ c', DiskIs (w6.setCell ⟨p, 5, none⟩ (.int .i64 (d.n + 1 : Nat))) c' p { d.more ch with n := d.n + 1 } ∧ ∀ k, k < w.heap.size → c' k = c k) ∧ Keep (fun k => c k < 7) w (w6.setCell ⟨p, 5, none⟩ (.int .i64 (d.n + 1 : Nat))) := by
  obtain ⟨mo', N', c', hr, hf, ht, hc, hk, hbs, hun⟩ := ha
  have hp := h.row.lt
  have K := m.keep.then k (fun _ _ h => h.elim)
  have hs := K.size
  have hF := m.f h hok k
  have hp6 : midC c w v1 p = 0 := by rw [midC_lt hp]; exact h.cp
  have hnow : FilIs W (midC c w v1) 1 R.nmo R.N := h.now.keep' K (fun k hk => midC_lt hk) (fun j _ hs => by have := ChMid.kp h hs; omega)
  have hS6 : ∀ j, (j = p ∨ R.nmo = some j ∨ midC c w v1 j = 3) → midC c w v1 j = 0 ∨ midC c w v1 j = 1 ∨ midC c w v1 j = 3 := by
    rintro j (rfl | e | e)
    · exact .inl hp6
    · exact .inr (.inl (hnow.mcol j e))
    · exact .inr (.inr e)
  refine ⟨by rw [hr.cell]; simp [Raw.cs, dC], hr.frozen, fun o => ?_, ?_⟩
  · have hbx : w.heap.size < W.heap.size := Nat.lt_of_lt_of_le m.box.lt k.size
    refine hk.cell hbx fun hS => ?_
    have h9 : midC c w v1 w.heap.size = 9 := by
      unfold midC
      rw [if_neg (by omega), if_neg]
      intro e
      rcases m.loc with h1 | ⟨g', h1, h2⟩
      · have := ownsRow_lt h.wrow (h1 ▸ e); omega
      · rw [h1] at e; injection e with e; omega
    have := hS6 _ hS
    omega
  have k7 := keep_setCell w6 p 5 (.int .i64 (d.n + 1 : Nat))
  have hr7 := hr.set 5 (.int .i64 (d.n + 1 : Nat))
  generalize w6.setCell ⟨p, 5, none⟩ (.int .i64 (d.n + 1 : Nat)) = w7 at k7 hr7 ⊢
  have hs6 := hk.size
  have k67 : Keep (fun j => j = p ∨ R.nmo = some j ∨ midC c w v1 j = 3) W w7 := hk.then k7 (fun j _ e => .inl e)
  have hc'p : c' p = 0 := by rw [hc p (by omega)]; exact hp6
  refine ⟨⟨c', ⟨⟨mo', R.smo, N', R.SL, v1, R.fm⟩, ?_⟩, fun j hj => by rw [hc j (by omega), midC_lt hj]⟩, ?_⟩
  · have hsl : ∀ y ∈ R.SL, BSl w6 0 y.2.1 y.2.2 ∧ Safe N' y.2.1 := fun y hy => hbs _ _ (hF.sure.row y hy) (hF.sure.col y hy) (h.safe y hy)
    have hsm : ∀ b, R.smo = some b → b < W.heap.size := fun b e => by
      rcases hF.sure.map with ⟨h0, _⟩ | ⟨b', h0, hm⟩
      · have h0' : R.smo = none := h0
        rw [h0'] at e; cases e
      · have h0' : R.smo = some b' := h0
        rw [h0'] at e; injection e with e; subst e; exact hm.lt
    have hsure6 : FilIs w6 c' 2 R.smo R.SL := by
      refine ⟨hk.mapV hF.sure.map fun g e hS => ?_, fun b e => by rw [hc b (hsm b e)]; exact hF.sure.mcol b e, fun x hx => (hsl x hx).1, fun x hx g e => by rw [hc g (bsl_block (hF.sure.row x hx) e)]; exact hF.sure.col x hx g e, h.sure.apart, h.sure.srt⟩
      have h2 : midC c w v1 g = 2 := hF.sure.mcol g e
      have := hS6 g hS
      omega
    have hne : ∀ j, j < w6.heap.size → j = p → c' j = 0 := fun j _ e => by rw [e]; exact hc'p
    refine ⟨?_, hc'p, hf.keep' k7 (fun _ _ => rfl) (fun j hj e => by rw [hne j hj e]; decide), hsure6.keep' k7 (fun _ _ => rfl) (fun j hj e => by rw [hne j hj e]; decide), h.eS, ?_, fun y hy => (hsl y hy).2, ?_, ?_, ?_, ?_, mid_oks h hok⟩
    · have e : ((((R.cs d).set 4 v1).set 0 (.map mo')).set (0 + 1) (.int .i64 (tot (txts N')))).set 5 (.int .i64 (d.n + 1 : Nat)) = Raw.cs ⟨mo', R.smo, N', R.SL, v1, R.fm⟩ { d.more ch with n := d.n + 1 } := by
        simp [Raw.cs, dC, Ds.more]
      rw [← e]; exact hr7
    · show txts N' = replay (d.ws ++ [ch]) d.S
      rw [ht, replay_snoc, h.eN]; rfl
    · exact k67.ownsRow hF.wrow fun g e hS => by
        have h4 : midC c w v1 g = 4 := m.wcol h g e
        have := hS6 g hS
        omega
    · intro g e
      have hg : g < W.heap.size := ownsRow_lt hF.wrow e
      rw [hc g hg]; exact m.wcol h g e
    · exact hF.fall.keep k67 (fun j hj => hc j hj) (fun j hj hS => by have := hS6 j hS; omega)
    · intro q hq
      have hq2 : ∀ x ∈ d.ws ++ [ch], q ≠ x.name ∧ q ≠ x.to := hq
      show kget N' q = kget R.SL q
      rw [hun q (hq2 ch (by simp)).1 (hq2 ch (by simp)).2]
      exact h.unt q (fun x hx => hq2 x (by simp [hx]))
  · refine (K.mono fun j _ hs => ?_).then k67 fun j hj hS => ?_
    · have := ChMid.kp h hs; omega
    · have := hS6 j hS
      rw [midC_lt hj] at this
      omega

theorem fall_col {fm : Option Nat} {fl : List Fl} (h : FallIs w c fm fl) : ∀ b, fm = some b → c b = 5 ∧ b < w.heap.size := by
  intro b e
  rcases h with ⟨h0, _⟩ | ⟨b', n, D, f, h1, h2, h3, _⟩
  · rw [h0] at e; cases e
  · rw [h1] at e; injection e with e; subst e; exact ⟨h2, h3.lt⟩
theorem DiskF.struck {w5 : World} {fl' : List Fl} (h : DiskF w c p R d) (hf : FallIs w5 c R.fm fl') (k : Keep (fun k => R.fm = some k) w w5) (k2 : Keep (fun _ => False) w5 W) : DiskF W c p R { d with fl := fl' } := by
  have hcol := fall_col h.fall
  have K : Keep (fun k => R.fm = some k) w W := k.trans (k2.mono (fun _ _ h => h.elim))
  have h5 : ∀ j, R.fm = some j → c j = 5 := fun j e => (hcol j e).1
  have hcp := h.cp
  exact ⟨h.row.keep K (fun e => by have := h5 p e; omega), h.cp, h.sure.keep' K (fun _ _ => rfl) (fun j _ e => by have := h5 j e; omega), h.eS, K.ownsRow h.wrow (fun g e e2 => by have := h5 g e2; have := h.wcol g e; omega), h.wcol, hf.keep k2 (fun _ _ => rfl) (fun _ _ h => h.elim), h.oks⟩
end
end Go.Proofs.Ytnlodlpjokkepab
