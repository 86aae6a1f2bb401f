/- A disk that some acts have changed, without falls and a room; nothing of the program stands here. -/
import Derived.Test.YtnlodlpjokkepabWRoom
namespace Go.Proofs.Ytnlodlpjokkepab
open Go.RowKit Go.Maps
set_option linter.unusedVariables false
set_option linter.unusedSimpArgs false

/-- what the loop of 'changed' keeps -/
structure CI (d : Ds) (k B : Nat) : Prop where
  calm : Calm d
  bd : d.bd = false
  wt : d.wt + d.S.length + d.ws.length ≤ B
  n : d.n ≤ k
theorem CI.mono {d : Ds} {k B k' B' : Nat} (h : CI d k B) (hk : k ≤ k') (hB : B ≤ B') : CI d k' B' := ⟨h.calm, h.bd, Nat.le_trans h.wt hB, Nat.le_trans h.n hk⟩
theorem CI.call {d : Ds} {k B : Nat} (h : CI d k B) (a : AC) : CI (calD d a).1 (k + 1) (B + (a.s.length + 1)) := by
  rcases cal_calm h.calm a with ⟨e, _⟩ | ⟨ch, e, hn, ht, hl, _⟩
  · rw [e]; exact h.mono (by omega) (by omega)
  · rw [e]
    refine ⟨calm_more h.calm ch hn (fun e => (ht e).1), h.bd, ?_, ?_⟩
    · have hw := h.wt
      show tot d.S + ((d.ws ++ [ch]).map fun ch => ch.s.length).sum + d.S.length + (d.ws ++ [ch]).length ≤ _
      unfold Ds.wt at hw
      rw [List.map_append, List.sum_append, List.length_append]
      simp
      omega
    · show d.n + 1 ≤ _
      have := h.n; omega
theorem syn_now (d : Ds) : (synD d).now = d.now := rfl
theorem CI.sync {d : Ds} {k B : Nat} (h : CI d k B) (hs : Srt d.S) (hm : ∀ ch ∈ d.ws, ch.kind = 2 → ch.to ≠ ch.name) : CI (synD d) k B := by
  obtain ⟨_, h2, h3⟩ := replay_bounds d.ws d.S hs hm
  refine ⟨⟨h.calm.dn, h.calm.fl, fun x hx => h.calm.nm x hx⟩, h.bd, ?_, h.n⟩
  have hw := h.wt
  show tot (replay d.ws d.S) + 0 + (replay d.ws d.S).length + 0 ≤ B
  unfold Ds.wt at hw
  omega
theorem DiskIs.ok {w : World} {c : Nat → Nat} {p : Nat} {d : Ds} (h : DiskIs w c p d) : Srt d.S ∧ ∀ ch ∈ d.ws, ch.kind = 2 → ch.to ≠ ch.name := by
  obtain ⟨R, hR⟩ := h
  exact ⟨by rw [← hR.eS]; exact srt_txts.2 hR.sure.srt, fun x hm => by obtain ⟨i, hi, rfl⟩ := List.getElem_of_mem hm; exact (hR.oks i hi).move⟩
theorem Left.ok {w w' : World} {c : Nat → Nat} {p : Nat} {d : Ds} (h : Left w c p d w') : Srt d.S ∧ ∀ ch ∈ d.ws, ch.kind = 2 → ch.to ≠ ch.name := by
  obtain ⟨⟨_, D, _⟩, _⟩ := h; exact D.ok
theorem Left.srt {w w' : World} {c : Nat → Nat} {p : Nat} {d : Ds} (h : Left w c p d w') : Srt d.now := by
  obtain ⟨⟨_, D, _⟩, _⟩ := h; exact D.srt
/-- what one act makes of a disk in 'changed' -/
def stD (d : Ds) (a : AC) : Ds := if 0 ≤ a.kind ∧ a.kind ≤ 4 then (calD d a).1 else if a.kind = 5 then synD d else d
theorem CI.step {d : Ds} {k B : Nat} (h : CI d k B) (a : AC) (ha : a.s.length ≤ 1048576) (hs : Srt d.S) (hm : ∀ ch ∈ d.ws, ch.kind = 2 → ch.to ≠ ch.name) : CI (stD d a) (k + 1) (B + 1048577) := by
  unfold stD
  split
  · exact (h.call a).mono (Nat.le_refl _) (by omega)
  · split
    · exact (h.sync hs hm).mono (by omega) (by omega)
    · exact h.mono (by omega) (by omega)
end Go.Proofs.Ytnlodlpjokkepab
