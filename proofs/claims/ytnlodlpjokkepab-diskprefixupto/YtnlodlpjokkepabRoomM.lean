/- What becomes of a disk in the law DiskRoom; nothing of the program stands here. -/
import Derived.Test.YtnlodlpjokkepabSmeW
namespace Go.Proofs.Ytnlodlpjokkepab
open Go.RowKit Go.Maps
set_option linter.unusedVariables false
set_option linter.unusedSimpArgs false

/-- a disk without falls, that is up, and whose names may be names -/
structure Calm (d : Ds) : Prop where
  dn : d.dn = false
  fl : d.fl = []
  nm : NmOk d
theorem chg_calm {d : Ds} (h : Calm d) (ch : Chg) : chgD d ch = ({ d.more ch with n := d.n + 1 }, 0) := by
  unfold chgD; rw [h.fl]; rfl
theorem now_more (d : Ds) (ch : Chg) : ({ d.more ch with n := d.n + 1 } : Ds).now = doC d.now ch := by
  show replay (d.ws ++ [ch]) d.S = _
  rw [replay_snoc]; rfl
theorem mem_doC {A : List (Bs × Bs)} {ch : Chg} {x : Bs × Bs} (h : x ∈ doC A ch) : x ∈ A ∨ x.1 = ch.name ∨ (ch.kind = 2 ∧ x.1 = ch.to) := by
  unfold doC at h
  split at h
  · rcases mem_kput.1 h with rfl | ⟨h, _⟩
    · exact .inr (.inl rfl)
    · exact .inl h
  · split at h
    · rcases mem_kput.1 h with rfl | ⟨h, _⟩
      · exact .inr (.inl rfl)
      · exact .inl h
    · split at h
      · rename_i h2
        rcases mem_kput.1 (mem_kdel.1 h).1 with rfl | ⟨h, _⟩
        · exact .inr (.inr ⟨h2, rfl⟩)
        · exact .inl h
      · split at h
        · exact .inl (mem_kdel.1 h).1
        · rcases mem_kput.1 h with rfl | ⟨h, _⟩
          · exact .inr (.inl rfl)
          · exact .inl h
theorem calm_more {d : Ds} (h : Calm d) (ch : Chg) (hn : nameOk ch.name = true) (ht : ch.kind = 2 → nameOk ch.to = true) : Calm { d.more ch with n := d.n + 1 } := by
  refine ⟨h.dn, h.fl, fun x hx => ?_⟩
  rw [now_more] at hx
  rcases mem_doC hx with hx | e | ⟨h2, e⟩
  · exact h.nm x hx
  · rw [e]; exact hn
  · rw [e]; exact ht h2
/-- a call leaves a disk as it was, or does one change that may be done -/
theorem cal_calm {d : Ds} (h : Calm d) (a : AC) : ((calD d a).1 = d ∧ (calD d a).2 ≠ 0) ∨ ∃ ch : Chg, (calD d a) = ({ d.more ch with n := d.n + 1 }, 0) ∧ nameOk ch.name = true ∧ (ch.kind = 2 → nameOk ch.to = true ∧ ch.to ≠ ch.name) ∧ ch.s.length ≤ a.s.length ∧
    ((ch.kind = 0 ∧ fitB d.bd d.rm (tot d.now) ch.s.length = true) ∨ (ch.kind = 1 ∧ fitB d.bd d.rm (tot d.now) ((ch.s.length : Int) - (((kget d.now ch.name).getD []).length : Int)) = true) ∨ (2 ≤ ch.kind ∧ ch.s = [])) := by
  have hdn : ¬ d.dn = true := by rw [h.dn]; decide
  unfold calD
  split
  · unfold appD
    rw [if_neg hdn]
    split
    · exact .inl ⟨rfl, by simp⟩
    · split
      · exact .inl ⟨rfl, by simp⟩
      · rename_i hn hf
        exact .inr ⟨⟨0, a.name, [], a.s, 0⟩, chg_calm h _, by simpa using hn, by simp, Nat.le_refl _, .inl ⟨rfl, by simpa using hf⟩⟩
  · split
    · unfold wrD
      rw [if_neg hdn]
      split
      · exact .inl ⟨rfl, by simp⟩
      · split
        · exact .inl ⟨rfl, by simp⟩
        · rename_i hn hf
          exact .inr ⟨⟨1, a.name, [], a.s, 0⟩, chg_calm h _, by simpa using hn, by simp, Nat.le_refl _, .inr (.inl ⟨rfl, by simpa using hf⟩)⟩
    · split
      · unfold mvD
        rw [if_neg hdn]
        split
        · exact .inl ⟨rfl, by simp⟩
        · split
          · exact .inl ⟨rfl, by simp⟩
          · split
            · exact .inl ⟨rfl, by simp⟩
            · rename_i hn hs hne
              have hn2 : nameOk a.name = true ∧ nameOk a.to = true := by simpa using hn
              exact .inr ⟨⟨2, a.name, a.to, [], 0⟩, chg_calm h _, hn2.1, fun _ => ⟨hn2.2, fun e => hne e.symm⟩, Nat.zero_le _, .inr (.inr ⟨Nat.le_refl _, rfl⟩)⟩
      · split
        · unfold rmD
          rw [if_neg hdn]
          split
          · exact .inl ⟨rfl, by simp⟩
          · split
            · exact .inl ⟨rfl, by simp⟩
            · rename_i hn hs
              exact .inr ⟨⟨3, a.name, [], [], 0⟩, chg_calm h _, by simpa using hn, by simp, Nat.zero_le _, .inr (.inr ⟨by show 2 ≤ 3; omega, rfl⟩)⟩
        · unfold cuD
          rw [if_neg hdn]
          split
          · exact .inl ⟨rfl, by simp⟩
          · split
            · exact .inl ⟨rfl, by simp⟩
            · split
              · exact .inl ⟨rfl, by simp⟩
              · rename_i hn hs hl
                exact .inr ⟨⟨4, a.name, [], [], a.n.toNat⟩, chg_calm h _, by simpa using hn, by simp, Nat.zero_le _, .inr (.inr ⟨by show 2 ≤ 4; omega, rfl⟩)⟩

/-- what the loop keeps: there is never more than there is room for -/
structure RI (d : Ds) (r : Int) (k B : Nat) : Prop where
  calm : Calm d
  bd : d.bd = true
  rm : d.rm = r
  fit : (tot d.now : Int) ≤ r
  S : d.S = []
  len : d.ws.length ≤ k
  sum : (d.ws.map fun ch => ch.s.length).sum ≤ B
  n : d.n ≤ k
set_option maxRecDepth 100000 in
theorem RI.next {d : Ds} {rm : Int} {k B : Nat} (h : RI d rm k B) (hs : Srt d.now) (a : AC) (ha : a.s.length ≤ 1048576) : RI (calD d a).1 rm (k + 1) (B + 1048576) ∧ ((calD d a).2 ≠ 0 → (calD d a).1 = d) := by
  rcases cal_calm h.calm a with ⟨e, hne⟩ | ⟨ch, e, hn, ht, hl, hf⟩
  · rw [e]
    exact ⟨⟨h.calm, h.bd, h.rm, h.fit, h.S, Nat.le_succ_of_le h.len, Nat.le_trans h.sum (Nat.le_add_right _ _), Nat.le_succ_of_le h.n⟩, fun _ => rfl⟩
  · rw [e]
    refine ⟨⟨calm_more h.calm ch hn (fun e => (ht e).1), h.bd, h.rm, ?_, h.S, ?_, ?_, ?_⟩, fun hc => absurd rfl hc⟩
    · rw [now_more]
      have hfit := h.fit
      rcases hf with ⟨hk, hf⟩ | ⟨hk, hf⟩ | ⟨hk, hf⟩
      · have e1 := tot_doC hs ch (fun e => (ht e).2)
        unfold fitB at hf
        rw [h.bd, h.rm] at hf
        simp at hf
        rcases hf with hf | hf
        · rw [hf] at e1; simp at e1; omega
        · omega
      · have e1 : doC d.now ch = kput d.now ch.name ch.s := by unfold doC; rw [hk]; simp
        have e2 := tot_kput hs ch.name ch.s
        rw [e1]
        unfold fitB at hf
        rw [h.bd, h.rm] at hf
        simp at hf
        omega
      · have e1 := tot_doC hs ch (fun e => (ht e).2)
        rw [hf] at e1
        simp at e1
        omega
    · show (d.ws ++ [ch]).length ≤ _
      rw [List.length_append]; have := h.len; simp; omega
    · show ((d.ws ++ [ch]).map fun ch => ch.s.length).sum ≤ _
      rw [List.map_append, List.sum_append]; have := h.sum; simp; omega
    · show d.n + 1 ≤ _
      have := h.n; omega
set_option maxRecDepth 100000 in
theorem RI.wt {d : Ds} {rm : Int} {k B : Nat} (h : RI d rm k B) : d.wt + d.S.length + d.ws.length ≤ B + k := by
  have h1 := h.sum
  have h2 := h.len
  unfold Ds.wt
  rw [h.S]
  simp [tot]
  omega
theorem DiskIs.srt {w : World} {c : Nat → Nat} {p : Nat} {d : Ds} (h : DiskIs w c p d) : Srt d.now := by
  obtain ⟨R, hR⟩ := h
  have hS : Srt d.S := by rw [← hR.eS]; exact srt_txts.2 hR.sure.srt
  have hmv2 : ∀ x ∈ d.ws, x.kind = 2 → x.to ≠ x.name := fun x hm => by obtain ⟨i, hi, rfl⟩ := List.getElem_of_mem hm; exact (hR.oks i hi).move
  exact (replay_bounds d.ws d.S hS hmv2).1
end Go.Proofs.Ytnlodlpjokkepab
