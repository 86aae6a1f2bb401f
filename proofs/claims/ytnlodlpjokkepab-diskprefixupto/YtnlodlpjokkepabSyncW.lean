/- The walk of all that waits being made sure. -/
import Derived.Test.YtnlodlpjokkepabTakeW
namespace Go.Proofs.Ytnlodlpjokkepab
open Go.RowKit Go.Maps
set_option linter.unusedVariables false
set_option linter.unusedSimpArgs false

/-- the names of ts are made sure -/
def SyncAt (w : World) (c : Nat → Nat) (p : Nat) (R : Raw) (d : Ds) (ts : List Bs) (wr : World) : Prop :=
  ∃ mo1 L1, RowIs wr p (((R.cs d).set 2 (.map mo1)).set 3 (.int .i64 (wrap64 (tot (txts L1) : Nat)))) 73 ∧ MapV wr mo1 (vals L1) ∧ Srt L1 ∧ (∀ m, kget L1 m = if m ∈ ts then kget R.N m else kget R.SL m) ∧ L1.length ≤ R.SL.length + ts.length ∧
    (∀ b, mo1 = some b → b ≠ p ∧ (b < w.heap.size → c b = 2)) ∧ Keep (fun k => k = p ∨ c k = 2) w wr

theorem tot_take {L N : List (Bs × FV)} (h : Srt L) (n : Bs) (hN : lenV (oldV N n).1 = (oldV N n).2.length) (hL : lenV (oldV L n).1 = (oldV L n).2.length) : ((tot (txts (takeK L N n)) : Nat) : Int) = (tot (txts L) : Nat) + ((lenV (oldV N n).1 : Int) - (lenV (oldV L n).1 : Int)) := by
  rw [hN, hL]
  unfold takeK
  cases hg : kget N n with
  | some v =>
    have h1 := tot_kput (srt_txts.2 h) n v.2
    rw [oldV_txts] at h1
    have h2 : oldV N n = v := by unfold oldV; rw [hg]; rfl
    simp only
    rw [txts_put, h2]
    omega
  | none =>
    have h1 := tot_kdel (srt_txts.2 h) n
    rw [oldV_txts] at h1
    have h2 : oldV N n = (.slice none 0 0, []) := by unfold oldV; rw [hg]; rfl
    simp only
    rw [txts_del, h2]
    simp only [List.length_nil]
    omega

theorem sync_step {w wr W : World} {c : Nat → Nat} {p : Nat} {R : Raw} {d : Ds} (h : DiskR w c p R d) (ts : List Bs) (ha : SyncAt w c p R d ts wr) (name : Bs) (hn : name.length ≤ maxLen) (hlen : R.SL.length + ts.length < maxLen) (k : Keep (fun _ => False) wr W) :
    Calls Try.prog 44 #[.pointer (some ⟨p, 2, none⟩), .agg #[.map R.nmo, .int .i64 (tot (txts R.N))], .string (tx name)] W fun e w' => e = .returned (.tuple #[]) ∧ (∀ g o v, g ≠ p → W.cell? ⟨g, o, none⟩ = some v → w'.cell? ⟨g, o, none⟩ = some v) ∧ w'.cell? ⟨p, 0, none⟩ = some (.map R.nmo) ∧ w'.cell? ⟨p, 1, none⟩ = some (.int .i64 (tot (txts R.N))) ∧ SyncAt w c p R d (ts ++ [name]) w' := by
  obtain ⟨mo1, L1, hr, hm, hs, hg, hl, hmo, hk⟩ := ha
  have hp := h.row.lt
  have hcp := h.cp
  have hK : Keep (fun k => k = p ∨ c k = 2) w W := hk.trans (k.mono (fun _ _ h => h.elim))
  have hnow : FilIs W c 1 R.nmo R.N := h.now.keep' hK (fun _ _ => rfl) (fun j _ e => by rcases e with rfl | e <;> omega)
  have hsz := hk.size
  have hszW := k.size
  have hvals : ∀ m, ∀ v, kget L1 m = some v → BSl w 0 v.1 v.2 := by
    intro m v e
    rw [hg] at e
    split at e
    · exact h.now.row _ (kget_mem e)
    · exact h.sure.row _ (kget_mem e)
  have hsl : ∀ x ∈ vals L1, IsSl x.2 := by
    intro x hx
    obtain ⟨y, hy, rfl⟩ := List.mem_map.1 hx
    exact bsl_isSl (hvals y.1 y.2 (srt_mem hs hy))
  have holdL : lenV (oldV L1 name).1 = (oldV L1 name).2.length := by
    unfold oldV
    cases e : kget L1 name with
    | none => rfl
    | some v => exact bsl_len (hvals _ _ e)
  have holdN := bsl_len (h.now.old name)
  have hlt : ∀ b, mo1 = some b → b < wr.heap.size := fun b e => by
    rcases hm with ⟨h0, _⟩ | ⟨b', h0, hm⟩
    · rw [h0] at e; cases e
    · rw [h0] at e; injection e with e; subst e; exact hm.lt
  refine (take_any p 2 _ _ mo1 (wrap64 (tot (txts L1) : Nat)) (vals L1) R.nmo (tot (txts R.N) : Nat) (vals R.N) (tx name) W (hr.keep k (fun h => h)) (by simp [Raw.cs, dC]) (by simp [Raw.cs, dC]) (k.mapV hm (fun _ _ h => h)) hnow.map (fun b e => (hmo b e).1) hsl hnow.sl (by rw [size_mk]; exact hn) (by simp [vals]; omega)).mono fun e w' ⟨he, mo2, hmo2, hne2, hr2, hm2, hk2⟩ => ⟨he, ?_, ?_, ?_, ?_⟩
  · intro g o v h1 h2
    refine (hk2.cell (World.block_lt_of_cell? _ _ h2) ?_).trans h2
    rintro (e | e)
    · exact h1 e
    · rcases k.mapV hm (fun _ _ h => h) with ⟨h0, _⟩ | ⟨b', h0, es, clock, hb, _⟩
      · rw [h0] at e; cases e
      · rw [h0] at e; injection e with e; subst e
        simp [World.cell?, hb] at h2
  · rw [hr2.cell]; simp [Raw.cs, dC]
  · rw [hr2.cell]; simp [Raw.cs, dC]
  · rw [tx_list] at hr2 hm2
    rw [oldV_vals, oldV_vals] at hr2
    refine ⟨mo2, takeK L1 R.N name, ?_, by rw [vals_take]; exact hm2, srt_takeK hs _ _, fun m => ?_, ?_, fun b e => ⟨hne2 b e, fun hb => ?_⟩, hK.then hk2 fun j hj e => ?_⟩
    · rw [set_ext] at hr2
      have e : wrap64 (wrap64 (tot (txts L1) : Nat) + ((lenV (oldV R.N name).1 : Int) - (lenV (oldV L1 name).1 : Int))) = wrap64 (tot (txts (takeK L1 R.N name)) : Nat) := by
        rw [tot_take hs name holdN holdL, Int.add_comm, wrap_add, Int.add_comm]
      rw [e] at hr2
      exact hr2
    · rw [takeK_get, hg m]
      by_cases e : m = name
      · subst e; simp
      · rw [if_neg e]
        simp [e]
    · have := len_takeK L1 R.N name
      simp only [List.length_append, List.length_singleton]
      omega
    · rcases hmo2 with e2 | ⟨b', e2, hb'⟩
      · exact (hmo b (e2 ▸ e)).2 hb
      · rw [e2] at e; injection e with e; omega
    · rcases e with e | e
      · exact .inl e
      · exact .inr ((hmo j e).2 hj)

/-- what 'Sync' makes of a disk -/
def synD (d : Ds) : Ds := { d with S := d.now, ws := [] }
def touched (ws : List Chg) : List Bs := ws.flatMap fun ch => [ch.name, ch.to]
theorem touched_len (ws : List Chg) : (touched ws).length = 2 * ws.length := by
  induction ws with
  | nil => rfl
  | cons x r ih => simp [touched] at ih ⊢; omega
theorem touched_snoc (ws : List Chg) (k : Nat) (hk : k < ws.length) : touched (ws.take (k + 1)) = (touched (ws.take k) ++ [ws[k].name]) ++ [ws[k].to] := by
  unfold touched
  rw [List.take_succ_eq_append_getElem hk, List.flatMap_append]
  simp only [List.flatMap_cons, List.flatMap_nil, List.append_nil, List.append_assoc, List.cons_append, List.nil_append]

theorem sync_end {w wr : World} {c : Nat → Nat} {p : Nat} {R : Raw} {d : Ds} (h : DiskR w c p R d) (hM : tot d.now ≤ 4611686018427387904) (ha : SyncAt w c p R d (touched d.ws) wr) : wr.cell? ⟨p, 4, none⟩ = some R.wv ∧ wr.frozen? ⟨p, 4, none⟩ = false ∧ Left w c p (synD d) (wr.setCell ⟨p, 4, none⟩ (.slice none 0 0)) := by
  obtain ⟨mo1, L1, hr, hm, hs, hg, hl, hmo, hk⟩ := ha
  refine ⟨by rw [hr.cell]; simp [Raw.cs, dC], hr.frozen, ?_⟩
  have hLN : L1 = R.N := srt_ext hs h.now.srt fun m => by
    rw [hg m]
    split
    · rfl
    · rename_i hnm
      refine (h.unt m fun ch hc => ?_).symm
      unfold touched at hnm
      simp only [List.mem_flatMap, not_exists, not_and] at hnm
      have := hnm ch hc
      simp at this
      exact this
  subst hLN
  have ht : tot (txts R.N) ≤ 4611686018427387904 := by rw [h.eN]; exact hM
  have htot : wrap64 ((tot (txts R.N) : Nat) : Int) = (tot (txts R.N) : Nat) := IntWalk.wrap64_in _ (by omega)
  rw [htot] at hr
  have hr4 := hr.set 4 (.slice none 0 0)
  have k4 := keep_setCell wr p 4 (.slice none 0 0)
  generalize wr.setCell ⟨p, 4, none⟩ (.slice none 0 0) = w4 at hr4 k4 ⊢
  have K : Keep (fun k => k = p ∨ c k = 2) w w4 := hk.then k4 (fun j _ e => .inl e)
  have hcp := h.cp
  have hp := h.row.lt
  have hcol : ∀ k, k < w.heap.size → (if mo1 = some k then 2 else c k) = c k := fun k hk => by
    by_cases e : mo1 = some k
    · rw [if_pos e, (hmo k e).2 hk]
    · rw [if_neg e]
  have hnow : FilIs w4 (fun k => if mo1 = some k then 2 else c k) 1 R.nmo R.N := h.now.keep' K hcol (fun j _ e => by rcases e with rfl | e <;> omega)
  refine ⟨⟨fun k => if mo1 = some k then 2 else c k, ⟨⟨R.nmo, mo1, R.N, R.N, .slice none 0 0, R.fm⟩, ?_⟩, hcol⟩, K.mono fun j _ e => by rcases e with rfl | e <;> omega⟩
  refine ⟨?_, ?_, hnow, ⟨k4.mapV hm (fun b e e2 => (hmo b e).1 e2), fun b e => if_pos e, hnow.row, hnow.col, hnow.apart, hnow.srt⟩, h.eN, h.eN, safe_self hnow, ⟨rfl, .inl ⟨rfl, rfl⟩⟩, fun g e => by simp [Value.ownBlock] at e, h.fall.keep K hcol (fun j _ e => by rcases e with rfl | e <;> omega), fun m _ => rfl, fun i hi => by simp [synD] at hi⟩
  · have e : (((R.cs d).set 2 (.map mo1)).set 3 (.int .i64 (tot (txts R.N)))).set 4 (.slice none 0 0) = Raw.cs ⟨R.nmo, mo1, R.N, R.N, .slice none 0 0, R.fm⟩ (synD d) := by simp [Raw.cs, dC, synD]
    rw [← e]; exact hr4
  · show (if mo1 = some p then 2 else c p) = 0
    rw [hcol p hp]; exact hcp

set_option maxRecDepth 100000 in
set_option maxHeartbeats 4000000 in
theorem sync_up (p : Nat) (c : Nat → Nat) (R : Raw) (d : Ds) (w : World) (h : DiskR w c p R d) (hdn : d.dn = false) (hM : d.wt + d.S.length + d.ws.length ≤ 70368744177) :
    Calls Try.prog 15 #[.pointer (some ⟨p, 0, none⟩)] w fun e w' => e = .returned (.int .i64 0) ∧ Left w c p (synD d) w' := by
  obtain ⟨ad, wc, hwc⟩ : ∃ ad cp, R.wv = .slice ad d.ws.length cp := by
    rcases h.wrow.2 with ⟨e, h0⟩ | ⟨g, cap, cur, e, _⟩
    · exact ⟨none, 0, by rw [e, h0]⟩
    · exact ⟨_, _, e⟩
  have d4 : w.cell? ⟨p, 4, none⟩ = some R.wv := h.row.cellAt (by simp [Raw.cs, dC])
  rw [hwc] at d4
  have d9 : w.cell? ⟨p, 9, none⟩ = some (.bool d.dn) := h.row.cellAt (by simp [Raw.cs, dC])
  rw [hdn] at d9
  have HD := hid (down_any (.pointer (some ⟨p, 0, none⟩)) false w (.inr ⟨p, rfl, d9⟩))
  have hlen : d.ws.length ≤ 70368744177 := by omega
  have hSL : R.SL.length = d.S.length := by rw [← h.eS]; simp [txts]
  have HST : Hid (∀ (k : Nat) (hk : k < d.ws.length) (wr : World), SyncAt w c p R d (touched (d.ws.take k)) wr → ∃ g, ad = some ⟨g, 0, none⟩ ∧ (∀ j, j < 5 → wr.cell? ⟨g, k * 5 + j, none⟩ = (chC d.ws[k])[j]?) ∧ wr.cell? ⟨p, 0, none⟩ = some (.map R.nmo) ∧ wr.cell? ⟨p, 1, none⟩ = some (.int .i64 (tot (txts R.N))) ∧
      (∀ W, Keep (fun _ => False) wr W → Calls Try.prog 44 #[.pointer (some ⟨p, 2, none⟩), .agg #[.map R.nmo, .int .i64 (tot (txts R.N))], .string (tx d.ws[k].name)] W fun e w' => e = .returned (.tuple #[]) ∧ (∀ g o v, g ≠ p → W.cell? ⟨g, o, none⟩ = some v → w'.cell? ⟨g, o, none⟩ = some v) ∧ w'.cell? ⟨p, 0, none⟩ = some (.map R.nmo) ∧ w'.cell? ⟨p, 1, none⟩ = some (.int .i64 (tot (txts R.N))) ∧ SyncAt w c p R d (touched (d.ws.take k) ++ [d.ws[k].name]) w')) := by
    intro k hk wr ha
    have ha' := ha
    obtain ⟨mo1, L1, hr, hm, hs, hg, hl, hmo, hkp⟩ := ha
    have hrow : wr.ownsRow 0 86 5 R.wv d.ws.length (chs d.ws) := hkp.ownsRow h.wrow fun g e hS => by
      have h4 := h.wcol g e
      have hcp := h.cp
      rcases hS with rfl | e2 <;> omega
    rw [hwc] at hrow
    obtain ⟨g, hg, hcl⟩ := wait_cells hrow k hk
    refine ⟨g, hg, fun j hj => by rw [Nat.mul_comm]; exact hcl j hj, by rw [hr.cell]; simp [Raw.cs, dC], by rw [hr.cell]; simp [Raw.cs, dC], fun W hW => sync_step h _ ha' d.ws[k].name (h.oks k hk).name ?_ hW⟩
    rw [touched_len, List.length_take, hSL]; unfold maxLen; omega
  have HS2 : Hid (∀ (k : Nat) (hk : k < d.ws.length) (wr : World), SyncAt w c p R d (touched (d.ws.take k) ++ [d.ws[k].name]) wr → ∀ W, Keep (fun _ => False) wr W → Calls Try.prog 44 #[.pointer (some ⟨p, 2, none⟩), .agg #[.map R.nmo, .int .i64 (tot (txts R.N))], .string (tx d.ws[k].to)] W fun e w' => e = .returned (.tuple #[]) ∧ (∀ g o v, g ≠ p → W.cell? ⟨g, o, none⟩ = some v → w'.cell? ⟨g, o, none⟩ = some v) ∧ w'.cell? ⟨p, 0, none⟩ = some (.map R.nmo) ∧ w'.cell? ⟨p, 1, none⟩ = some (.int .i64 (tot (txts R.N))) ∧ SyncAt w c p R d (touched (d.ws.take (k + 1))) w') := by
    intro k hk wr ha W hW
    rw [touched_snoc _ _ hk]
    refine sync_step h _ ha d.ws[k].to (h.oks k hk).to ?_ hW
    rw [List.length_append, touched_len, List.length_take, hSL]; simp only [List.length_singleton]; unfold maxLen; omega
  have HEND : Hid (∀ wr, SyncAt w c p R d (touched d.ws) wr → wr.cell? ⟨p, 4, none⟩ = some (.slice ad d.ws.length wc) ∧ wr.frozen? ⟨p, 4, none⟩ = false ∧ Left w c p (synD d) (wr.setCell ⟨p, 4, none⟩ (.slice none 0 0))) := fun wr ha => by rw [← hwc]; exact sync_end h (by have := (DiskIs.tot_le ⟨R, h⟩).1; omega) ha
  have H0 : Hid (SyncAt w c p R d (touched (d.ws.take 0)) w) := by
    refine ⟨R.smo, R.SL, ?_, h.sure.map, h.sure.srt, fun m => ?_, Nat.le_add_right _ _, fun b e => ⟨fun e2 => ?_, fun _ => h.sure.mcol b e⟩, Keep.refl _ _⟩
    · have ht : tot (txts R.SL) ≤ 4611686018427387904 := by rw [h.eS]; have : tot d.S ≤ d.wt := Nat.le_add_right _ _; omega
      rw [IntWalk.wrap64_in _ (by omega), set_same (by simp [Raw.cs, dC]), set_same (by simp [Raw.cs, dC])]; exact h.row
    · simp [touched]
    · have h1 := h.sure.mcol b e
      have h2 := h.cp
      rw [e2] at h1; omega
  clear h hdn hM d9 hSL hwc
  go_enter Try.func15, Try.ntmps15
  go_wp2_with fail
  refine HD.out.mono ?_
  rintro e w1 ⟨rfl, rfl⟩
  clear HD
  go_wp2
  go_loopw [12] (fun i wr => ∃ k : Nat, k ≤ d.ws.length ∧ i = .int .i64 k ∧ Hid (SyncAt w1 c p R d (touched (d.ws.take k)) wr)) (fun i _ => d.ws.length - (intOf i).toNat)
  case atStart => exact ⟨0, by omega, rfl, H0⟩
  case round =>
    clear H0
    obtain ⟨k, hk, rfl, HA⟩ := hrel
    by_cases hlt : k < d.ws.length
    · have hk0 : (0 : Int) ≤ (k : Int) := by omega
      have hk1 : (k : Int) < (d.ws.length : Int) := by omega
      obtain ⟨g, hg, hcl, p0, p1, hT1⟩ := HST.out k hlt wr HA.out
      have T1 := hid hT1
      have T2 := hid (HS2.out k hlt)
      have q0 := hcl 0 (by omega)
      have q1 := hcl 1 (by omega)
      have q2 := hcl 2 (by omega)
      have q3 := hcl 3 (by omega)
      have q4 := hcl 4 (by omega)
      clear hcl hT1 HST HS2 HEND d4 HA
      generalize d.ws[k] = ch at *
      simp only [chC, List.getElem?_cons_zero, List.getElem?_cons_succ, Nat.add_zero] at q0 q1 q2 q3 q4
      subst hg
      have hpw : p ≠ wr.heap.size := fun e => by have := World.block_lt_of_cell? _ _ p0; simp at this; omega
      have hwp : wr.heap.size ≠ p := fun e => hpw e.symm
      have BX : Hid (∀ W : World, W.heap = (wr.alloc (.cells #[.int .i64 ch.kind, .string ⟨ch.name.toArray⟩, .string ⟨ch.to.toArray⟩, .string ⟨ch.s.toArray⟩, .int .i64 ch.long] 86)).heap → W.cell? ⟨p, 0, none⟩ = some (.map R.nmo) ∧ W.cell? ⟨p, 1, none⟩ = some (.int .i64 (tot (txts R.N))) ∧ W.cell? ⟨wr.heap.size, 1, none⟩ = some (.string ⟨ch.name.toArray⟩) ∧ W.cell? ⟨wr.heap.size, 2, none⟩ = some (.string ⟨ch.to.toArray⟩)) := by
        intro W hW
        have e : ∀ a, W.cell? a = (wr.alloc (.cells #[.int .i64 ch.kind, .string ⟨ch.name.toArray⟩, .string ⟨ch.to.toArray⟩, .string ⟨ch.s.toArray⟩, .int .i64 ch.long] 86)).cell? a := fun a => by simp [World.cell?, hW]
        have hb := box_new wr ch
        have ka := keep_alloc (fun _ => False) wr (.cells #[.int .i64 ch.kind, .string ⟨ch.name.toArray⟩, .string ⟨ch.to.toArray⟩, .string ⟨ch.s.toArray⟩, .int .i64 ch.long] 86)
        have hp : p < wr.heap.size := by have := World.block_lt_of_cell? _ _ p0; simpa using this
        rw [e, e, e, e]
        exact ⟨(ka.cell hp (fun h => h)).trans p0, (ka.cell hp (fun h => h)).trans p1, hb.2.1, hb.2.2.1⟩
      have BX0 := hid (BX.out (wr.alloc (.cells #[.int .i64 ch.kind, .string ⟨ch.name.toArray⟩, .string ⟨ch.to.toArray⟩, .string ⟨ch.s.toArray⟩, .int .i64 ch.long] 86)) rfl)
      have BX1 := hid (BX.out (wr.alloc (.cells #[.int .i64 ch.kind, .string ⟨ch.name.toArray⟩, .string ⟨ch.to.toArray⟩, .string ⟨ch.s.toArray⟩, .int .i64 ch.long] 86)).drew rfl)
      have U1 : Hid (∀ X, (wr.alloc X).drew.cell? ⟨wr.heap.size, 1, none⟩ = some (.string ⟨ch.name.toArray⟩) → (wr.alloc X).drew.cell? ⟨wr.heap.size, 2, none⟩ = some (.string ⟨ch.to.toArray⟩) → Calls Try.prog 44 #[.pointer (some ⟨p, 2, none⟩), .agg #[.map R.nmo, .int .i64 (tot (txts R.N))], .string ⟨ch.name.toArray⟩] (wr.alloc X).drew fun e w' => e = .returned (.tuple #[]) ∧ (w'.cell? ⟨p, 0, none⟩ = some (.map R.nmo) ∧ w'.cell? ⟨p, 1, none⟩ = some (.int .i64 (tot (txts R.N))) ∧ w'.cell? ⟨wr.heap.size, 1, none⟩ = some (.string ⟨ch.name.toArray⟩) ∧ w'.cell? ⟨wr.heap.size, 2, none⟩ = some (.string ⟨ch.to.toArray⟩)) ∧ SyncAt w1 c p R d (touched (d.ws.take k) ++ [ch.name]) w') :=
        fun X h1 h2 => (T1.out _ ((keep_alloc _ _ _).trans (keep_drew _ _))).mono fun e w' ⟨he, hc, e0, e1, hS⟩ => ⟨he, ⟨e0, e1, hc _ _ _ hwp h1, hc _ _ _ hwp h2⟩, hS⟩
      have U2 : Hid (∀ w2, SyncAt w1 c p R d (touched (d.ws.take k) ++ [ch.name]) w2 → w2.cell? ⟨wr.heap.size, 1, none⟩ = some (.string ⟨ch.name.toArray⟩) → w2.cell? ⟨wr.heap.size, 2, none⟩ = some (.string ⟨ch.to.toArray⟩) → Calls Try.prog 44 #[.pointer (some ⟨p, 2, none⟩), .agg #[.map R.nmo, .int .i64 (tot (txts R.N))], .string ⟨ch.to.toArray⟩] w2.drew fun e w' => e = .returned (.tuple #[]) ∧ (w'.cell? ⟨p, 0, none⟩ = some (.map R.nmo) ∧ w'.cell? ⟨p, 1, none⟩ = some (.int .i64 (tot (txts R.N))) ∧ w'.cell? ⟨wr.heap.size, 1, none⟩ = some (.string ⟨ch.name.toArray⟩) ∧ w'.cell? ⟨wr.heap.size, 2, none⟩ = some (.string ⟨ch.to.toArray⟩)) ∧ SyncAt w1 c p R d (touched (d.ws.take (k + 1))) w') :=
        fun w2 hS h1 h2 => (T2.out w2 hS w2.drew (keep_drew _ _)).mono fun e w' ⟨he, hc, e0, e1, hS⟩ => ⟨he, ⟨e0, e1, hc _ _ _ hwp h1, hc _ _ _ hwp h2⟩, hS⟩
      clear T1 T2 BX
      go_wp2
      go_region_held3 (fun w' => w'.cell? ⟨p, 0, none⟩ = some (.map R.nmo) ∧ w'.cell? ⟨p, 1, none⟩ = some (.int .i64 (tot (txts R.N))) ∧ w'.cell? ⟨wr.heap.size, 1, none⟩ = some (.string ⟨ch.name.toArray⟩) ∧ w'.cell? ⟨wr.heap.size, 2, none⟩ = some (.string ⟨ch.to.toArray⟩)) (first | with_reducible assumption | with_reducible (exact BX0.out) | with_reducible (exact BX1.out)) ((go_at_call 44; with_reducible (refine (U1.out _ ?_ ?_).mono ?_); with_reducible (exact BX1.out.2.2.1); with_reducible (exact BX1.out.2.2.2); rintro e w2 ⟨rfl, hb2, hS2⟩))
      all_goals
        have V2 := hid (U2.out w2 hS2 hb2.2.2.1 hb2.2.2.2)
        have B2 := hid hb2
        have B2d : Hid (w2.drew.cell? ⟨p, 0, none⟩ = some (.map R.nmo) ∧ w2.drew.cell? ⟨p, 1, none⟩ = some (.int .i64 (tot (txts R.N))) ∧ w2.drew.cell? ⟨wr.heap.size, 1, none⟩ = some (.string ⟨ch.name.toArray⟩) ∧ w2.drew.cell? ⟨wr.heap.size, 2, none⟩ = some (.string ⟨ch.to.toArray⟩)) := hb2
        clear U1 U2 hS2 hb2 BX0 BX1 q0 q1 q2 q3 q4 p0 p1
        go_wp2
        go_region_held3 (fun w' => w'.cell? ⟨p, 0, none⟩ = some (.map R.nmo) ∧ w'.cell? ⟨p, 1, none⟩ = some (.int .i64 (tot (txts R.N))) ∧ w'.cell? ⟨wr.heap.size, 1, none⟩ = some (.string ⟨ch.name.toArray⟩) ∧ w'.cell? ⟨wr.heap.size, 2, none⟩ = some (.string ⟨ch.to.toArray⟩)) (first | with_reducible assumption | with_reducible (exact B2.out) | with_reducible (exact B2d.out)) ((go_at_call 44; with_reducible (refine V2.out.mono ?_); rintro e w3 ⟨rfl, hb3, hS3⟩))
        all_goals
          have HA := hid hS3
          clear V2 hS3 hb3 B2 B2d
          go_wp2
          exact ⟨⟨k + 1, by omega, by go_num, HA⟩, by simp [intOf]; omega⟩
    · have hd : decide ((k : Int) < (d.ws.length : Int)) = false := decide_eq_false (by omega)
      have hkl : d.ws.take k = d.ws := List.take_of_length_le (by omega)
      rw [hkl] at HA
      obtain ⟨e4, f4, hL⟩ := HEND.out wr HA.out
      have HL := hid hL
      clear HST HS2 HEND HA hL d4 hkl
      go_wp2
      go_ret
      exact ⟨rfl, HL.out⟩
theorem sync_any (p : Nat) (c : Nat → Nat) (d : Ds) (w : World) (h : DiskIs w c p d) (hdn : d.dn = false) (hM : d.wt + d.S.length + d.ws.length ≤ 70368744177) :
    Calls Try.prog 15 #[.pointer (some ⟨p, 0, none⟩)] w fun e w' => e = .returned (.int .i64 0) ∧ Left w c p (synD d) w' := by
  obtain ⟨R, hR⟩ := h
  exact sync_up p c R d w hR hdn hM
end Go.Proofs.Ytnlodlpjokkepab
