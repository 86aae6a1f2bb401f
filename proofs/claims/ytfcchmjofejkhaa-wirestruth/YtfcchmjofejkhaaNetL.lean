/- A packet is laid under way. -/
import Derived.Test.YtfcchmjofejkhaaNetW
import Derived.Test.YtfcchmjofejkhaaGAppL
namespace Go.Proofs.Ytfcchmjofejkhaa
open Go.RowKit Go.Maps
set_option linter.unusedVariables false
set_option linter.unusedSimpArgs false

/-- the net's own two blocks -/
def Own2 (p : Nat) (v : Value) : Nat → Prop := fun j => j = p ∨ v.ownBlock = some j
theorem NetR.left {w w5 : World} {P : Nat → Prop} {p : Nat} {v : Value} {n : Net} (h : NetR w5 (Own2 p v) p v n) (hP : P p) (hloc : ∀ g, v.ownBlock = some g → g < w.heap.size → P g) (k : Keep P w w5) : NLeft w P p n w5 :=
  ⟨_, ⟨v, h⟩, fun j hj hh => hh.elim (fun e => e ▸ hP) (fun e => hloc j e hj), k⟩
theorem NetR.keepR {w5 w6 : World} {p r : Nat} {v : Value} {n : Net} (h : NetR w5 (Own2 p v) p v n) (k : Keep (· = r) w5 w6) (h1 : r ≠ p) (h2 : v.ownBlock ≠ some r) : NetR w6 (Own2 p v) p v n :=
  ⟨h.row.keep k (fun e => h1 e.symm), h.pp, k.ownsRow h.own (fun g e e2 => h2 (e2 ▸ e)), h.vp, h.ln, h.ct, h.nd, h.sz⟩
/-- behind the store of a list that lies where the old one lay, or is new -/
theorem net_laid2 {w w0 w2 : World} {P : Nat → Prop} {p : Nat} {v v' : Value} {n : Net} {L' : List Pk} (h : NetR w P p v n) (k0 : Keep (fun _ => False) w w0) (hr : w2.ownsRow 0 33 3 v' L'.length (pks L')) (hk : Keep (fun k => v.ownBlock = some k) w0 w2) (hloc : LocN w v v')
    (hl : L'.length ≤ 4096) (hnd : ∀ x ∈ L', two x.fr x.tt = true) (hsz : ∀ x ∈ L', x.s.size ≤ 140737488355328) : NetR (w2.setCell ⟨p, 0, none⟩ v') (Own2 p v') p v' { n with L := L' } ∧ Keep P w (w2.setCell ⟨p, 0, none⟩ v') ∧ ∀ g, v'.ownBlock = some g → g < w.heap.size → P g := by
  have hp := h.lt
  have hvp : ¬ v.ownBlock = some p := fun e => (h.vp p e).2 rfl
  have hne : ∀ g, v'.ownBlock = some g → (g < w.heap.size → P g) ∧ g ≠ p := fun g e => by
    rcases hloc g e with h1 | h1
    · exact ⟨fun _ => (h.vp g h1).1, (h.vp g h1).2⟩
    · exact ⟨fun _ => by omega, by omega⟩
  have r0 := h.row.keep k0 (fun h => h)
  have r2 := (r0.keep hk hvp).set 0 v'
  have kw : Keep P w w2 := (k0.mono (fun _ _ h => h.elim)).then hk (fun j hj e => (h.vp j e).1)
  exact ⟨⟨r2, .inl rfl, (keep_setCell w2 p 0 v').ownsRow hr (fun g e e2 => (hne g e).2 e2), fun g e => ⟨.inr e, (hne g e).2⟩, hl, h.ct, hnd, hsz⟩, kw.then (keep_setCell _ _ _ _) (fun j hj e => e ▸ h.pp), fun g e hg => (hne g e).1 hg⟩
theorem net_laid {w w0 w2 : World} {P : Nat → Prop} {p : Nat} {v v' : Value} {n : Net} {L' : List Pk} (h : NetR w P p v n) (k0 : Keep (fun _ => False) w w0) (hr : w2.ownsRow 0 33 3 v' L'.length (pks L')) (hk : Keep (fun k => v.ownBlock = some k) w0 w2) (hloc : LocN w v v')
    (hl : L'.length ≤ 4096) (hnd : ∀ x ∈ L', two x.fr x.tt = true) (hsz : ∀ x ∈ L', x.s.size ≤ 140737488355328) : NLeft w P p { n with L := L' } (w2.setCell ⟨p, 0, none⟩ v') := by
  obtain ⟨h1, h2, h3⟩ := net_laid2 h k0 hr hk hloc hl hnd hsz
  exact h1.left h.pp h3 h2
set_option maxRecDepth 100000 in
set_option maxHeartbeats 2000000 in
theorem nlay_any (p : Nat) (P : Nat → Prop) (n : Net) (x : Pk) (w : World) (h : NetIs w P p n) (hs : x.s.size ≤ 140737488355328) (hl : n.L.length < 4096) (ht : two x.fr x.tt = true) :
    Calls Try.prog 33 #[.pointer (some ⟨p, 0, none⟩), pkV x] w fun e w' => e = .returned (.tuple #[]) ∧ NLeft w P p { n with L := n.L ++ [x] } w' := by
  obtain ⟨v, h⟩ := h
  obtain ⟨ad, cap, rfl⟩ := row_form h.own
  have CP0 := hid (fun W => copied_any x W hs)
  have HX1 : Hid (pks [x] = [.int .i64 x.fr, .int .i64 x.tt, .string x.s]) := rfl
  have hPL : Hid (pks (n.L ++ [x]) = pks n.L ++ pks [x]) := pks_app _ _
  have HL1 : Hid ((n.L ++ [x]).length = n.L.length + 1) := by simp [Hid]
  have HND : Hid (∀ y ∈ n.L ++ [x], two y.fr y.tt = true) := fun y hy => by rcases List.mem_append.1 hy with h1 | h1; exact h.nd y h1; rw [List.mem_singleton.1 h1]; exact ht
  have HSZ : Hid (∀ y ∈ n.L ++ [x], y.s.size ≤ 140737488355328) := fun y hy => by rcases List.mem_append.1 hy with h1 | h1; exact h.sz y h1; rw [List.mem_singleton.1 h1]; exact hs
  have HLE : Hid (n.L.length + 1 ≤ 70368744177) := by show _ ≤ _; omega
  have HLB : Hid ((n.L.length + 1) * 32 ≤ 140737488355328) := by show _ ≤ _; omega
  have HL4 : Hid ((n.L ++ [x]).length ≤ 4096) := by show _ ≤ _; rw [HL1.out]; omega
  obtain ⟨fr, tt, s⟩ := x
  unfold pkV at *
  simp only at CP0 HX1
  have HONE : Hid (∀ u ∈ pks [⟨fr, tt, s⟩], u.oneCell' = true) := pks_one _
  have HC3 : Hid ((pks [⟨fr, tt, s⟩]).length = 1 * 3) := rfl
  generalize pks [⟨fr, tt, s⟩] = XS at *
  generalize n.L ++ [⟨fr, tt, s⟩] = L' at *
  have H := hid h
  have hp := h.lt
  have CP : Hid (∀ W, Keep (fun _ => False) w W → Calls Try.prog 38 #[.agg #[.int .i64 fr, .int .i64 tt, .string s]] W fun e w' => e = .returned (.agg #[.int .i64 fr, .int .i64 tt, .string s]) ∧ Hid (Keep (fun _ => False) w w') ∧ w'.cell? ⟨p, 0, none⟩ = some (.slice ad n.L.length cap) ∧ (w'.alloc (Obj.cells #[.int .i64 fr, .int .i64 tt, .string s] 33)).cell? ⟨p, 0, none⟩ = some (.slice ad n.L.length cap)) := fun W hW => (CP0.out W).mono fun e w' ⟨he, hb⟩ => by
    have k := hW.trans (hb.keep _)
    exact ⟨he, k, (k.cell hp (fun h => h)).trans H.out.c0, ((k.trans (keep_alloc _ _ _)).cell hp (fun h => h)).trans H.out.c0⟩
  have KA : Hid (∀ X, Keep (fun _ => False) w (w.alloc X)) := fun X => keep_alloc _ _ _
  have KD : Hid (∀ X, Keep (fun _ => False) w (w.alloc X).drew) := fun X => (keep_alloc _ _ _).trans (keep_drew _ _)
  have q0 := h.c0
  have q1 : Hid (∀ X, (w.alloc X).cell? ⟨p, 0, none⟩ = some (.slice ad n.L.length cap)) := fun X => ((keep_alloc (fun _ => False) w X).cell hp (fun h => h)).trans h.c0
  have AP : Hid (∀ w1 X, Keep (fun _ => False) w w1 → X = Obj.cells #[.int .i64 fr, .int .i64 tt, .string s] 33 → (w1.alloc X).ownsRow 0 33 3 (.slice ad n.L.length cap) n.L.length (pks n.L) ∧ GSrc (w1.alloc X) (.slice (some ⟨w1.heap.size, 0, none⟩) 1 1) 1 XS) := fun w1 X k e => by
    subst e
    refine ⟨(k.trans (keep_alloc _ _ _)).ownsRow H.out.own (fun _ _ h => h), ?_⟩
    rw [HX1.out]
    exact gsrc_block (heap_alloc_new _ _)
  have FIN : Hid (∀ w0 w2 ad' cap', Keep (fun _ => False) w w0 → w2.ownsRow 0 33 3 (.slice ad' (n.L.length + 1) cap') (n.L.length + 1) (pks n.L ++ XS) → Keep (fun k => (Value.slice ad n.L.length cap).ownBlock = some k) w0 w2 → LocG w0 (.slice ad n.L.length cap) (.slice ad' (n.L.length + 1) cap') → (w2.cell? ⟨p, 0, none⟩ = some (.slice ad n.L.length cap) ∧ w2.frozen? ⟨p, 0, none⟩ = false) ∧ Hid (NLeft w P p { n with L := L' } (w2.setCell ⟨p, 0, none⟩ (.slice ad' (n.L.length + 1) cap')))) := fun w0 w2 ad' cap' k hr hk hloc => by
    have r := (H.out.row.keep k (fun h => h)).keep hk (fun e => (H.out.vp p e).2 rfl)
    refine ⟨⟨r.cellAt rfl, r.frozen⟩, net_laid H.out k ?_ hk ?_ HL4.out HND.out HSZ.out⟩
    · rw [HL1.out, hPL.out]; exact hr
    · exact fun g e => (hloc.n g e).imp id (fun hg => Nat.le_trans k.size hg)
  clear h HND HSZ HL4 hPL HL1 CP0 ht hs HX1
  go_enter Try.func33, Try.ntmps33
  have q2 := q1.out (Obj.cells #[.int .i64 fr, .int .i64 tt, .string s] 33)
  go_wp2
  go_region_law (first | (refine step_gapp_at (w0 := w1.alloc (Obj.cells #[.int .i64 fr, .int .i64 tt, .string s] 33)) (by rfl) _ _ ElPk (by rfl) 0 (.slice ad n.L.length cap) (.slice (some ⟨w1.heap.size, 0, none⟩) 1 1) (pks n.L) XS n.L.length 1 (n.L.length + 1) (by rfl) (Keep.refl _ _) (by rfl) (by rfl) (AP.out w1 _ hk1.out rfl).1 (Nat.zero_le _) (AP.out w1 _ hk1.out rfl).2 HC3.out HONE.out HLE.out HLB.out ?_; intro ad' cap' w2 hr2 hk2 hloc; obtain ⟨⟨e1, e2⟩, HF⟩ := FIN.out _ _ ad' cap' (hk1.out.trans (keep_alloc _ _ _)) hr2 hk2 hloc) | (go_simp; go_at_call 38; first | with_reducible (refine (CP.out _ (KA.out _)).mono ?_) | with_reducible (refine (CP.out _ (KD.out _)).mono ?_); rintro e w1 ⟨rfl, hk1, hc1, hc2⟩; go_simp))
  all_goals
    clear q2 q1 AP FIN CP KA KD
    go_end0
    exact ⟨rfl, HF.out⟩
end Go.Proofs.Ytfcchmjofejkhaa
