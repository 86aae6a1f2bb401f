/- The walk of a change. -/
import Derived.Test.YtefbioainibmaaaGreatDoorJoined16
import Derived.Test.YtefbioainibmaaaGreatDoorJoined02
import Derived.Deep.RegionLaw
namespace Go.Proofs.YtefbioainibmaaaGreatDoor
open Go.RowKit Go.Maps
set_option linter.unusedVariables false
set_option linter.unusedSimpArgs false

/-- what 'append(d.waits, c)' leaves -/
structure WMore (w : World) (v : Value) (ws : List Chg) (ch : Chg) (v' : Value) (w' : World) : Prop where
  is : w'.ownsRow 0 131 5 v' (ws.length + 1) (chs (ws ++ [ch]))
  loc : v'.ownBlock = v.ownBlock ∨ ∃ g, v'.ownBlock = some g ∧ w.heap.size ≤ g
  keep : Keep (fun k => v.ownBlock = some k) w w'
theorem chs_snoc (ws : List Chg) (ch : Chg) : chs (ws ++ [ch]) = chs ws ++ chC ch := by simp [chs]
theorem chC_cell1 (ch : Chg) : ∀ u ∈ chC ch, u.oneCell' = true := by
  intro u hu
  simp [chC] at hu
  rcases hu with rfl | rfl | rfl | rfl | rfl <;> rfl
theorem info86 : (Tryz.prog.info? 131).map (fun i => (i.zero, i.size, i.bytes)) = some (some (.agg #[.int .i64 0, .string ⟨#[]⟩, .string ⟨#[]⟩, .string ⟨#[]⟩, .int .i64 0]), 5, 64) := by kernel_rfl

/-- 'append(d.waits, c)' as one step of a region that draws -/
theorem step_wait {w w0 : World} {ops : Array Oper} {o : Oper} {a : Act} {K : Act → World → Prop} {Q : Exit → Act → World → Prop} {E : Prop} (hgd : o.guard = none) (sl x : Operand)
    (ho : o.op = .call { callee := .builtin .append, args := #[sl, x], argTypes := #[121, 121] }) (v : Value) (ws : List Chg) (ch : Chg) (Mc : Array Value) (hMc : Mc = (chC ch).toArray) (hw : w.heap = (w0.alloc (.cells Mc 131)).heap) (hK : Keep (fun _ => False) w0 w)
    (hs : a.eval sl = v) (hx : a.eval x = .slice (some ⟨w0.heap.size, 0, none⟩) 1 1) (h0 : w0.ownsRow 0 131 5 v ws.length (chs ws)) (hl : ws.length ≤ 70368744177)
    (h : ∀ ad' cap' w', WMore w0 v ws ch (.slice ad' (ws.length + 1) cap') w' → K (a.put o.dst (.slice ad' (ws.length + 1) cap')) w') : if Region.wanted o (yielded ops a.tmps) = true then Oper.wp Tryz.prog o a w K Q else E := by
  have hwn : Region.wanted o (yielded ops a.tmps) = true := by simp [Region.wanted, hgd]
  rw [if_pos hwn]
  subst hMc
  obtain ⟨i0, hi, hz0, hz1, hz2⟩ := info_parts info86
  have hcell : ∀ p, w.cell? p = (w0.alloc (.cells (chC ch).toArray 131)).cell? p := fun p => by simp [World.cell?, hw]
  obtain ⟨v', w', hr, h2, h3, h4, h5⟩ := run_append_own_at (P := Tryz.prog) w 0 121 o.type 131 i0 _ 5 64 Tryz.underlying121 hi hz0 hz1 hz2 rfl (by decide) v ws.length (chs ws) (hK.ownsRow h0 (fun _ _ h => h)) ⟨w0.heap.size, 0, none⟩ 1 1 (chC ch) rfl
    (fun j u hu => by rw [Addr.add_lit, Nat.zero_add, hcell, cell_of_row _ _ _ _ _ _ (heap_alloc_new _ _)]; simpa using hu) (chC_cell1 ch) (by unfold maxLen; omega) (by omega) (Nat.zero_le _)
  have hsz := hK.size
  unfold Oper.wp execOp
  simp only [ho, resolve, invoke, builtin, Sem.run_bind, Sem.run_pure, Result.andThen_ok, List.map_toArray, List.map_cons, List.map_nil, hs, hx, hr, Oper.upon]
  obtain ⟨ad', cap', rfl⟩ : ∃ ad' cap', v' = .slice ad' (ws.length + 1) cap' := by
    rcases h2.2 with ⟨_, h0⟩ | ⟨g, cap, cur, e, _⟩
    · omega
    · exact ⟨_, _, e⟩
  refine h ad' cap' w' ⟨by rw [chs_snoc]; exact h2, h5.imp id (fun e => ⟨_, e, hsz⟩), (hK.mono (fun _ _ h => h.elim)).trans ⟨h3.os, h3.tape, h3.output, h3.size, fun k hk hn => h3.block k hk (fun e => hn e.symm)⟩⟩

/-- the change lies in its block; nothing else has turned -/
structure ChSt (w : World) (ch : Chg) (w' : World) : Prop where
  box : RowIs w' w.heap.size (chC ch) 131
  keep : Keep (fun _ => False) w w'
theorem ChSt.st {w w' : World} {ch : Chg} (h : ChSt w ch w') (j : Nat) (v : Value) (hv : (chC ch)[j]? = some v) : ChSt w ch (w'.setCell ⟨w.heap.size, j, none⟩ v) :=
  ⟨by have := h.box.set j v; rw [set_same hv] at this; exact this, h.keep.then (keep_setCell _ _ _ _) (fun k hk e => by omega)⟩
theorem ChSt.go {w w' w2 : World} {ch : Chg} (h : ChSt w ch w') (hb : Below w'.heap.size w' w2) : ChSt w ch w2 := ⟨h.box.keep (hb.keep (fun _ => False)) (fun h => h), h.keep.trans (hb.keep _)⟩
theorem chSt_new (w : World) (ch : Chg) : ChSt w ch (w.alloc (.cells #[.int .i64 ch.kind, .string ⟨ch.name.toArray⟩, .string ⟨ch.to.toArray⟩, .string ⟨ch.s.toArray⟩, .int .i64 ch.long] 131)) := ⟨heap_alloc_new _ _, keep_alloc _ _ _⟩
/-- .. by its cells -/
def ChCs (w : World) (ch : Chg) (w' : World) : Prop := (w'.cell? ⟨w.heap.size, 1, none⟩ = some (.string ⟨ch.name.toArray⟩) ∧ w'.cell? ⟨w.heap.size, 2, none⟩ = some (.string ⟨ch.to.toArray⟩) ∧ w'.cell? ⟨w.heap.size, 3, none⟩ = some (.string ⟨ch.s.toArray⟩) ∧ w'.frozen? ⟨w.heap.size, 1, none⟩ = false ∧ w'.frozen? ⟨w.heap.size, 2, none⟩ = false ∧ w'.frozen? ⟨w.heap.size, 3, none⟩ = false) ∧ ChSt w ch w'
theorem ChSt.cs {w w' : World} {ch : Chg} (h : ChSt w ch w') : ChCs w ch w' := ⟨⟨h.box.cellAt rfl, h.box.cellAt rfl, h.box.cellAt rfl, h.box.frozen, h.box.frozen, h.box.frozen⟩, h⟩

/-- what a change makes of a disk, and what is told -/
def chgD (d : Ds) (ch : Chg) : Ds × Int :=
  match d.fl.find? fun x => x.at_ = (d.n : Int) with
  | none => ({ d.more ch with n := d.n + 1 }, 0)
  | some f => (failD { d.more ch with fl := offF d.fl d.n } f.keep f.torn, 21)
/-- what a call that works on a disk leaves -/
def Left (w : World) (c : Nat → Nat) (p : Nat) (d : Ds) (w' : World) : Prop := (∃ c', DiskIs w' c' p d ∧ ∀ k, k < w.heap.size → c' k = c k) ∧ Keep (fun k => c k < 6) w w'

/-- the change is done to the files that are -/
theorem chg_apply {w wM W : World} {c : Nat → Nat} {p : Nat} {R : Raw} {d : Ds} {ch : Chg} {v1 : Value} (h : DiskR w c p R d) (m : ChMid w c p R d ch v1 wM) (hok : ChOk d.now ch) (k : Keep (fun _ => False) wM W) (hM : d.wt + d.S.length + d.ws.length + ch.s.length + ch.name.length + ch.to.length ≤ 70368744177) :
    Calls Tryz.prog 69 #[.pointer (some ⟨p, 0, none⟩), .agg #[.int .i64 ch.kind, .string ⟨ch.name.toArray⟩, .string ⟨ch.to.toArray⟩, .string ⟨ch.s.toArray⟩, .int .i64 ch.long]] W fun e w6 => e = .returned (.tuple #[]) ∧ BoxIs w6 w.heap.size ch ∧ w6.cell? ⟨p, 5, none⟩ = some (.int .i64 d.n) ∧ w6.frozen? ⟨p, 5, none⟩ = false ∧ Left w c p { d.more ch with n := d.n + 1 } (w6.setCell ⟨p, 5, none⟩ (.int .i64 (d.n + 1 : Nat))) := by
  have hS : Srt d.S := by rw [← h.eS]; exact srt_txts.2 h.sure.srt
  have hmv : ∀ x ∈ d.ws, x.kind = 2 → x.to ≠ x.name := fun x hm => by obtain ⟨i, hi, rfl⟩ := List.getElem_of_mem hm; exact (h.oks i hi).move
  have hb := replay_bounds d.ws d.S hS hmv
  have hlen : R.N.length = (replay d.ws d.S).length := by have := congrArg List.length h.eN; simpa [txts, Ds.now] using this
  have heN : txts R.N = replay d.ws d.S := h.eN
  have hwt : d.wt = tot d.S + (d.ws.map fun ch => ch.s.length).sum := rfl
  have hl1 : R.N.length + 1 < maxLen := by rw [hlen]; unfold maxLen; omega
  refine (apply_any p 0 _ _ R.nmo R.N _ 1 ch W (m.ap h k (by omega)) (by rw [heN]; exact hok) (by rw [heN]; omega) hl1).mono fun e w6 ⟨he, hA⟩ => ?_
  obtain ⟨e5, f5, hbx, hL⟩ := m.done h hok k hA
  have hbW := m.box.keep k (fun h => h)
  exact ⟨he, ⟨(hbx 0).trans (hbW.cellAt rfl), (hbx 1).trans (hbW.cellAt rfl), (hbx 2).trans (hbW.cellAt rfl), (hbx 3).trans (hbW.cellAt rfl), (hbx 4).trans (hbW.cellAt rfl)⟩, e5, f5, hL⟩

/-- the power fails at the change -/
theorem chg_fail {w wM w5 W : World} {c : Nat → Nat} {p : Nat} {R : Raw} {d : Ds} {ch : Chg} {v1 : Value} (h : DiskR w c p R d) (hdn : d.dn = false) (m : ChMid w c p R d ch v1 wM) (hok : ChOk d.now ch) (fl' : List Fl) (hf : FallIs w5 (midC c w v1) R.fm fl') (k : Keep (fun k => R.fm = some k) wM w5) (k2 : Keep (fun _ => False) w5 W) (hM : d.wt + d.S.length + d.ws.length + ch.s.length + ch.name.length + ch.to.length ≤ 70368744177) (kp tn : Int) :
    Calls Tryz.prog 23 #[.pointer (some ⟨p, 0, none⟩), .int .i64 kp, .int .i64 tn] W fun e w' => e = .returned (.tuple #[]) ∧ Left w c p (failD { d.more ch with fl := fl' } kp tn) w' := by
  have hF := (m.f h hok (Keep.refl _ _)).struck hf k k2
  have hwt : ({ d.more ch with fl := fl' } : Ds).wt = d.wt + ch.s.length := by simp [Ds.wt, Ds.more]; omega
  have hl : ({ d.more ch with fl := fl' } : Ds).ws.length = d.ws.length + 1 := by simp [Ds.more]
  refine (fail_up p _ _ _ kp tn W hF hdn (by rw [hwt, hl]; show d.wt + ch.s.length + d.S.length + (d.ws.length + 1) ≤ _; omega)).mono fun e w' ⟨he, ⟨c', hD, hc⟩, hK⟩ => ⟨he, ⟨c', hD, fun j hj => ?_⟩, ?_⟩
  · have h1 := m.keep.size
    have h2 := k.size
    have h3 := k2.size
    rw [hc j (by omega), midC_lt hj]
  · have hcol := fall_col h.fall
    refine (((m.keep.mono fun j _ hs => ?_).then k (fun j hj e => ?_)).then k2 (fun _ _ h => h.elim)).then hK (fun j hj e => ?_)
    · have := ChMid.kp h hs; omega
    · have := (hcol j e).1; omega
    · rw [midC_lt hj] at e; exact e

set_option maxRecDepth 100000 in
set_option maxHeartbeats 4000000 in
theorem change_any (p : Nat) (c : Nat → Nat) (R : Raw) (d : Ds) (ch : Chg) (w : World) (h : DiskR w c p R d) (hdn : d.dn = false) (hok : ChOk d.now ch) (hM : d.wt + d.S.length + d.ws.length + ch.s.length + ch.name.length + ch.to.length ≤ 70368744177) (hn : d.n ≤ 1152921504606846976) :
    Calls Tryz.prog 86 #[.pointer (some ⟨p, 0, none⟩), cv ch] w fun e w' => e = .returned (.int .i64 (chgD d ch).2) ∧ Left w c p (chgD d ch).1 w' := by
  have HC1 : Hid (∀ W, ChSt w ch W → Calls Tryz.prog 90 #[.string ⟨ch.name.toArray⟩] W fun e w' => e = .returned (.string ⟨ch.name.toArray⟩) ∧ ChCs w ch w') := fun W hW => (clone_any _ W (by rw [size_mk]; omega)).mono fun e w' ⟨he, hb⟩ => ⟨he, (hW.go hb).cs⟩
  have HC2 : Hid (∀ W, ChSt w ch W → Calls Tryz.prog 90 #[.string ⟨ch.to.toArray⟩] W fun e w' => e = .returned (.string ⟨ch.to.toArray⟩) ∧ ChCs w ch w') := fun W hW => (clone_any _ W (by rw [size_mk]; omega)).mono fun e w' ⟨he, hb⟩ => ⟨he, (hW.go hb).cs⟩
  have HC3 : Hid (∀ W, ChSt w ch W → Calls Tryz.prog 90 #[.string ⟨ch.s.toArray⟩] W fun e w' => e = .returned (.string ⟨ch.s.toArray⟩) ∧ ChCs w ch w') := fun W hW => (clone_any _ W (by rw [size_mk]; omega)).mono fun e w' ⟨he, hb⟩ => ⟨he, (hW.go hb).cs⟩
  have CS0 := hid (chSt_new w ch).cs
  have CS1 : Hid (ChCs w ch (w.alloc (.cells #[.int .i64 ch.kind, .string ⟨ch.name.toArray⟩, .string ⟨ch.to.toArray⟩, .string ⟨ch.s.toArray⟩, .int .i64 ch.long] 131)).drew) := ((chSt_new w ch).go ((Below.refl _ _).drew)).cs
  have T1 : Hid (∀ W, ChSt w ch W → ChCs w ch (W.setCell ⟨w.heap.size, 1, none⟩ (.string ⟨ch.name.toArray⟩))) := fun W hW => (hW.st 1 _ rfl).cs
  have T2 : Hid (∀ W, ChSt w ch W → ChCs w ch (W.setCell ⟨w.heap.size, 2, none⟩ (.string ⟨ch.to.toArray⟩))) := fun W hW => (hW.st 2 _ rfl).cs
  have T3 : Hid (∀ W, ChSt w ch W → ChCs w ch (W.setCell ⟨w.heap.size, 3, none⟩ (.string ⟨ch.s.toArray⟩))) := fun W hW => (hW.st 3 _ rfl).cs
  unfold ChCs at HC1 HC2 HC3 CS0 CS1 T1 T2 T3
  have H := hid h
  unfold cv chV
  clear h
  go_enter Tryz.func86, Tryz.ntmps86
  go_wp2
  go_region_held3 (fun w' => (w'.cell? ⟨w.heap.size, 1, none⟩ = some (.string ⟨ch.name.toArray⟩) ∧ w'.cell? ⟨w.heap.size, 2, none⟩ = some (.string ⟨ch.to.toArray⟩) ∧ w'.cell? ⟨w.heap.size, 3, none⟩ = some (.string ⟨ch.s.toArray⟩) ∧ w'.frozen? ⟨w.heap.size, 1, none⟩ = false ∧ w'.frozen? ⟨w.heap.size, 2, none⟩ = false ∧ w'.frozen? ⟨w.heap.size, 3, none⟩ = false) ∧ ChSt w ch w')
    (first | (refine ⟨?_, ?_⟩ <;> with_reducible assumption) | with_reducible (exact CS0.out) | with_reducible (exact CS1.out) | (with_reducible (refine T1.out _ ?_); with_reducible assumption) | (with_reducible (refine T2.out _ (T1.out _ ?_).2); with_reducible assumption) | (with_reducible (refine T3.out _ (T2.out _ (T1.out _ ?_).2).2); with_reducible assumption))
    (first | (go_at_call 90; with_reducible (refine (HC1.out _ ?_).mono ?_); (first | with_reducible assumption | with_reducible (exact CS0.out.2) | with_reducible (exact CS1.out.2)); rintro e w1 ⟨rfl, hc1, hs1⟩) | (go_at_call 90; with_reducible (refine (HC2.out _ ?_).mono ?_); (first | with_reducible assumption | with_reducible (exact CS0.out.2) | with_reducible (exact CS1.out.2)); rintro e w2 ⟨rfl, hc2, hs2⟩) | (go_at_call 90; with_reducible (refine (HC3.out _ ?_).mono ?_); (first | with_reducible assumption | with_reducible (exact CS0.out.2) | with_reducible (exact CS1.out.2)); rintro e w3 ⟨rfl, hc3, hs3⟩))
  all_goals
    have HS := hid (T3.out _ (T2.out _ (T1.out _ hs3).2).2).2
    clear T1 T2 T3 CS0 CS1 HC1 HC2 HC3 hc1 hc2 hc3 hs1 hs2 hs3
    generalize ((w3.setCell ⟨w.heap.size, 1, none⟩ (.string ⟨ch.name.toArray⟩)).setCell ⟨w.heap.size, 2, none⟩ (.string ⟨ch.to.toArray⟩)).setCell ⟨w.heap.size, 3, none⟩ (.string ⟨ch.s.toArray⟩) = wA at *
    have b0 := HS.out.box.cellAt (o := 0) rfl
    have b1 := HS.out.box.cellAt (o := 1) rfl
    have b2 := HS.out.box.cellAt (o := 2) rfl
    have b3 := HS.out.box.cellAt (o := 3) rfl
    have b4 := HS.out.box.cellAt (o := 4) rfl
    have HRA := hid (H.out.row.keep HS.out.keep (fun h => h))
    have d4 : wA.cell? ⟨p, 4, none⟩ = some R.wv := HRA.out.cellAt rfl
    have d4a : (wA.alloc (Obj.cells #[.int .i64 ch.kind, .string ⟨ch.name.toArray⟩, .string ⟨ch.to.toArray⟩, .string ⟨ch.s.toArray⟩, .int .i64 ch.long] 131)).cell? ⟨p, 4, none⟩ = some R.wv := (HRA.out.keep (keep_alloc (fun _ => False) _ _) (fun h => h)).cellAt rfl
    have HWR := hid (HS.out.keep.ownsRow H.out.wrow (fun _ _ h => h))
    have HLW : Hid (d.ws.length ≤ 70368744177) := by show _ ≤ _; omega
    have HMc : Hid (#[Value.int .i64 ch.kind, .string ⟨ch.name.toArray⟩, .string ⟨ch.to.toArray⟩, .string ⟨ch.s.toArray⟩, .int .i64 ch.long] = (chC ch).toArray) := rfl
    have HK1 : Hid (∀ X, Keep (fun _ => False) wA (wA.alloc X)) := fun X => keep_alloc _ _ _
    have HK2 : Hid (∀ X, Keep (fun _ => False) wA (wA.alloc X).drew) := fun X => (keep_alloc _ _ _).trans (keep_drew _ _)
    have PW : Hid (∀ v1 w4, WMore wA R.wv d.ws ch v1 w4 → w4.cell? ⟨p, 4, none⟩ = some R.wv ∧ w4.frozen? ⟨p, 4, none⟩ = false) := by
      intro v1 w4 hm
      have := HRA.out.keep hm.keep (fun e => by have h4 := H.out.wcol p e; rw [H.out.cp] at h4; cases h4)
      exact ⟨this.cellAt rfl, this.frozen⟩
    have MID : Hid (∀ ad1 cap1 w4, WMore wA R.wv d.ws ch (.slice ad1 (d.ws.length + 1) cap1) w4 → ChMid w c p R d ch (.slice ad1 (d.ws.length + 1) cap1) (w4.setCell ⟨p, 4, none⟩ (.slice ad1 (d.ws.length + 1) cap1))) := by
      intro ad1 cap1 w4 hm
      have h := H.out
      have hp := h.row.lt
      have hpv : ¬ R.wv.ownBlock = some p := fun e => by have h4 := h.wcol p e; rw [h.cp] at h4; cases h4
      have hbx := HS.out.box.lt
      have hbv : ¬ R.wv.ownBlock = some w.heap.size := fun e => by have := ownsRow_lt h.wrow e; omega
      have hKA := HS.out.keep
      have hsA := hKA.size
      have hnp : ∀ g, (Value.slice ad1 (d.ws.length + 1) cap1).ownBlock = some g → ¬ g = p := fun g e e2 => by
        rcases hm.loc with h1 | ⟨g', h1, h2⟩
        · exact hpv (by rw [← h1, e, e2])
        · rw [h1] at e; injection e with e; omega
      refine ⟨(HRA.out.keep hm.keep hpv).set 4 _, ?_, (keep_setCell w4 p 4 _).ownsRow hm.is hnp, hm.loc.imp id (fun ⟨g, e, hg⟩ => ⟨g, e, by omega⟩), ?_⟩
      · exact ((hKA.mono (fun _ _ h => h.elim)).then hm.keep (fun j hj e => .inr (h.wcol j e))).then (keep_setCell _ _ _ _) (fun j hj e => .inl e)
      · exact (HS.out.box.keep hm.keep hbv).keep (keep_setCell _ _ _ _) (by omega)
    have HOK := hid hok
    have HDN := hid hdn
    have HM := hid hM
    have HN := hid hn
    clear hM hok hn hdn
    go_wp2
    go_region_law (refine step_wait (w0 := wA) (by rfl) _ _ (by rfl) R.wv d.ws ch _ HMc.out (by rfl) (by first | exact HK1.out _ | exact HK2.out _) (by rfl) (by rfl) HWR.out HLW.out ?_; intro ad1 cap1 w4 hm; have e4 := (PW.out _ _ hm).1; have f4 := (PW.out _ _ hm).2)
    all_goals
      have HMID := hid (MID.out _ _ _ hm)
      clear MID PW HWR HLW HMc HK1 HK2 d4 d4a HRA e4 f4 hm b0 b1 b2 b3 b4 HS
      generalize w4.setCell ⟨p, 4, none⟩ (.slice ad1 (d.ws.length + 1) cap1) = wM at *
      have HF := hid (HMID.out.f H.out HOK.out (Keep.refl _ _))
      have m5 : wM.cell? ⟨p, 5, none⟩ = some (.int .i64 d.n) := HMID.out.row.cellAt (by simp [Raw.cs, dC])
      have m6 : wM.cell? ⟨p, 6, none⟩ = some (.map R.fm) := HMID.out.row.cellAt (by simp [Raw.cs, dC])
      have hp := HMID.out.row.lt
      have hp0 : midC c w (.slice ad1 (d.ws.length + 1) cap1) p ≠ 5 := by rw [HF.out.cp]; decide
      have hn2 : d.n ≤ 4611686018427387904 := by have := HN.out; omega
      cases hfil : d.fl.filter (fun x => x.at_ = (d.n : Int)) with
      | nil =>
        have HR : Hid (chgD d ch = ({ d.more ch with n := d.n + 1 }, 0)) := by
          show _ = _
          unfold chgD
          rw [List.find?_eq_none.2 (fun x hx => by have := List.filter_eq_nil_iff.1 hfil x hx; simpa using this)]
        have ST := hid (strike_none p d.n R.fm _ d.fl wM m5 m6 hp HF.out.fall hn2 hfil)
        clear hfil m5 m6 hp hp0 hn2
        go_wp2_with fail
        refine ST.out.mono ?_
        rintro e w5 ⟨rfl, hk5⟩
        have HK5 := hid hk5
        clear ST hk5
        have HB0 : Hid (∀ X, BoxIs (w5.alloc X) w.heap.size ch) := fun X => by
          have hb := (HMID.out.box.keep HK5.out (fun h => h)).keep (keep_alloc (fun _ => False) w5 X) (fun h => h)
          exact ⟨hb.cellAt rfl, hb.cellAt rfl, hb.cellAt rfl, hb.cellAt rfl, hb.cellAt rfl⟩
        have AP : Hid (∀ X, Calls _ _ _ _ _) := fun X => chg_apply (W := (w5.alloc X).drew) H.out HMID.out HOK.out (HK5.out.trans ((keep_alloc _ _ _).trans (keep_drew _ _))) HM.out
        have hw1 : wrap64 ((d.n : Int) + 1) = ((d.n + 1 : Nat) : Int) := by have := HN.out; rw [IntWalk.wrap64_in _ (by omega)]; omega
        unfold BoxIs at HB0 AP
        clear HF
        have HB1 : Hid (∀ X, (w5.alloc X).drew.cell? ⟨w.heap.size, 0, none⟩ = some (.int .i64 ch.kind) ∧ (w5.alloc X).drew.cell? ⟨w.heap.size, 1, none⟩ = some (.string ⟨ch.name.toArray⟩) ∧ (w5.alloc X).drew.cell? ⟨w.heap.size, 2, none⟩ = some (.string ⟨ch.to.toArray⟩) ∧ (w5.alloc X).drew.cell? ⟨w.heap.size, 3, none⟩ = some (.string ⟨ch.s.toArray⟩) ∧ (w5.alloc X).drew.cell? ⟨w.heap.size, 4, none⟩ = some (.int .i64 ch.long)) := HB0.out
        go_wp2
        go_region_held3 (fun w' => w'.cell? ⟨w.heap.size, 0, none⟩ = some (.int .i64 ch.kind) ∧ w'.cell? ⟨w.heap.size, 1, none⟩ = some (.string ⟨ch.name.toArray⟩) ∧ w'.cell? ⟨w.heap.size, 2, none⟩ = some (.string ⟨ch.to.toArray⟩) ∧ w'.cell? ⟨w.heap.size, 3, none⟩ = some (.string ⟨ch.s.toArray⟩) ∧ w'.cell? ⟨w.heap.size, 4, none⟩ = some (.int .i64 ch.long)) (first | with_reducible assumption | with_reducible (exact HB0.out _) | with_reducible (exact HB1.out _)) ((go_at_call 69; with_reducible (refine (AP.out _).mono ?_); rintro e w6 ⟨rfl, hbx, e5, f5, hL⟩))
        all_goals
          rw [show ((d.n + 1 : Nat) : Int) = (d.n : Int) + 1 from (by omega)] at hL
          have HL := hid hL
          clear AP hL HB0 HB1 hbx
          go_wp2
          go_ret
          exact ⟨ret_int (by rw [HR.out]), by rw [HR.out]; exact HL.out⟩
      | cons f r =>
        have HR : Hid (chgD d ch = (failD { d.more ch with fl := offF d.fl d.n } f.keep f.torn, 21)) := by
          show _ = _
          unfold chgD
          rw [(off_filter d.fl d.n f r hfil).1]
        have ST := hid (strike_some p d.n R.fm _ d.fl f r wM m5 m6 hp hp0 HF.out.fall hn2 hfil)
        clear hfil m5 m6 hp hp0 hn2
        go_wp2_with fail
        refine ST.out.mono ?_
        rintro e w5 ⟨rfl, hf5, hk5⟩
        have FA : Hid (∀ X, Calls _ _ _ _ _) := fun X => chg_fail (W := w5.alloc X) H.out HDN.out HMID.out HOK.out _ hf5 hk5 (keep_alloc _ _ _) HM.out f.keep f.torn
        clear ST hk5 hf5 HF
        go_wp2_with fail
        refine (FA.out _).mono ?_
        rintro e w6 ⟨rfl, hL⟩
        have HL := hid hL
        clear FA hL
        go_wp2
        go_ret
        exact ⟨ret_int (by rw [HR.out]), by rw [HR.out]; exact HL.out⟩
end Go.Proofs.YtefbioainibmaaaGreatDoor
