/- The walk of a change's being done to files: what is cut, what is moved. -/
import Derived.Test.YtnlodlpjokkepabApplyX
namespace Go.Proofs.Ytnlodlpjokkepab
open Go.RowKit Go.Maps
set_option linter.unusedVariables false

/-- 'b[:k:k]' -/
theorem cut_run (w : World) (v : Value) (T : Bs) (k : Nat) (h : BSl w 0 v T) (hk : k ≤ T.length) : ∃ v', (∀ W : World, (Instr.slice 94 v none (some (.int .i64 (k : Int))) (some (.int .i64 (k : Int)))).run Try.prog W = .ok v' W) ∧ BSl w 0 v' (T.take k) ∧ v'.ownBlock = v.ownBlock ∧ ∀ y, Fits v' y := by
  obtain ⟨i0, hi, hz0, hz1, hz2⟩ := info_parts info8
  rcases h with ⟨rfl, rfl⟩ | ⟨g, cap, rfl, h1, h2, h3, h4, h5⟩
  · have hk0 : k = 0 := by simpa using hk
    subst hk0
    refine ⟨.slice none 0 0, fun W => ?_, .inl ⟨rfl, rfl⟩, rfl, fits_nil⟩
    simp [Instr.slice, Instr.sliceBounds, Instr.sliceBound, asIntOf, run_underlying Try.underlying94, sizeOf, typeInfo, hi, Result.andThen]
  · refine ⟨.slice (some ⟨g, 0, none⟩) k k, fun W => ?_, .inr ⟨g, k, by rw [List.length_take, Nat.min_eq_left hk], h1, h2, by rw [List.length_take, Nat.min_eq_left hk]; exact Nat.le_refl _, fun j hj => ?_, fun j hj => h5 j (by omega)⟩, rfl, fun y g' n1 c1 n2 c2 e1 _ hlt => ?_⟩
    · have e1 : (0 : Int) ≤ (k : Int) := by omega
      have e2 : k ≤ cap := by omega
      have e3 : (⟨g, 0, none⟩ : Addr).add 0 = ⟨g, 0, none⟩ := rfl
      simp [Instr.slice, Instr.sliceBounds, Instr.sliceBound, asIntOf, run_underlying Try.underlying94, sizeOf, typeInfo, hi, Result.andThen, e1, e2, e3]
    · rw [List.length_take] at hj
      rw [h4 j (by omega)]; simp
    · injection e1 with _ e3 e4; omega

set_option maxRecDepth 100000 in
set_option maxHeartbeats 2000000 in
theorem apply_cut (pb po : Nat) (cs : List Value) (t : TypeId) (mo : Option Nat) (L : List (Bs × FV)) (c : Nat → Nat) (mc : Nat) (n to s : ByteArray) (ln : Nat) (w : World) (h : ApIn w c mc pb po cs t mo L) (hn : n.size ≤ maxLen) (hb : tot (txts L) ≤ 140737488355328) (hln : ln ≤ (oldV L n.data.toList).2.length) :
    Calls Try.prog 48 #[.pointer (some ⟨pb, po, none⟩), chV 4 n to s ln] w fun e w' => e = .returned (.tuple #[]) ∧ Applied w c mc pb po cs t mo L ⟨4, n.data.toList, to.data.toList, s.data.toList, ln⟩ w' := by
  have hlt := h.row.lt
  have hold := h.fil.old n.data.toList
  have holdl : (oldV L n.data.toList).2.length ≤ tot (txts L) := by
    have := oldV_txts L n.data.toList
    cases hg : kget (txts L) n.data.toList with
    | none => rw [hg] at this; rw [← this]; simp
    | some b => rw [hg] at this; rw [← this]; exact tot_get hg
  have kb := keep_alloc (fun _ => False) w (chO 4 n to s ln)
  have hrowb : RowIs (w.alloc (chO 4 n to s ln)) pb cs t := h.row.keep kb (fun h => h)
  have k0 := hrowb.cellAt h.h0
  have hl1 := mapV_look (w := w.alloc (chO 4 n to s ln)) (kb.mapV h.fil.map (fun _ _ h => h)) n hn
  have hl2 := mapV_look (w := (w.alloc (chO 4 n to s ln)).drew) (kb.mapV h.fil.map (fun _ _ h => h)) n hn
  rw [oldV_vals] at hl1 hl2
  have b0 := ch_cell w 4 n to s ln 0
  have b1 := ch_cell w 4 n to s ln 1
  have b4 := ch_cell w 4 n to s ln 4
  simp only [List.getElem?_toArray, List.getElem?_cons_zero, List.getElem?_cons_succ] at b0 b1 b4
  obtain ⟨v1, hsl, hv1, hloc, hfit⟩ := cut_run w _ _ ln hold hln
  have SET : Hid (∀ W, Keep (fun _ => False) w W → w.heap.size < W.heap.size → W.cell? ⟨w.heap.size, 1, none⟩ = some (.string n) ∧ W.cell? ⟨w.heap.size, 4, none⟩ = some (.int .i64 ln) → Calls Try.prog 62 #[.pointer (some ⟨pb, po, none⟩), .string n, v1] W fun e w' => e = .returned (.tuple #[]) ∧ (w'.cell? ⟨w.heap.size, 1, none⟩ = some (.string n) ∧ w'.cell? ⟨w.heap.size, 4, none⟩ = some (.int .i64 ln)) ∧ Applied w c mc pb po cs t mo L ⟨4, n.data.toList, to.data.toList, s.data.toList, ln⟩ w') := by
    intro W hW hWs hWc
    refine (set_put h ⟨4, n.data.toList, to.data.toList, s.data.toList, ln⟩ n rfl v1 _ (hW.bsl hv1 (fun _ _ h => h)) (.inl hloc) (hW.mono (fun _ _ h => h.elim)) (fun y U hy hf => ⟨hW.bsl hy (fun _ _ h => h), hfit y⟩) (by rw [List.length_take]; omega) hn ?_).mono fun e w' ⟨he, hA, hc⟩ => ⟨he, ⟨(hc _ _ (Nat.le_refl _) hWs).trans hWc.1, (hc _ _ (Nat.le_refl _) hWs).trans hWc.2⟩, hA⟩
    unfold doC; simp; rw [oldV_txts]
  have HC1 : Hid ((w.alloc (chO 4 n to s ln)).drew.cell? ⟨w.heap.size, 1, none⟩ = some (.string n) ∧ (w.alloc (chO 4 n to s ln)).drew.cell? ⟨w.heap.size, 4, none⟩ = some (.int .i64 ln)) := ⟨b1, b4⟩
  have HC2 : Hid ((w.alloc (chO 4 n to s ln)).drew.drew.cell? ⟨w.heap.size, 1, none⟩ = some (.string n) ∧ (w.alloc (chO 4 n to s ln)).drew.drew.cell? ⟨w.heap.size, 4, none⟩ = some (.int .i64 ln)) := ⟨b1, b4⟩
  have HK1 : Hid (Keep (fun _ => False) w (w.alloc (chO 4 n to s ln)).drew ∧ w.heap.size < (w.alloc (chO 4 n to s ln)).drew.heap.size) := ⟨kb.trans (keep_drew _ _), by show _ < (w.heap.push _).size; simp⟩
  have HK2 : Hid (Keep (fun _ => False) w (w.alloc (chO 4 n to s ln)).drew.drew ∧ w.heap.size < (w.alloc (chO 4 n to s ln)).drew.drew.heap.size) := ⟨(kb.trans (keep_drew _ _)).trans (keep_drew _ _), by show _ < (w.heap.push _).size; simp⟩
  generalize oldV L n.data.toList = ov at *
  obtain ⟨v0, T0⟩ := ov
  clear hrowb kb h hb hn hlt hold holdl hv1 hloc hfit hln
  generalize hwb : w.alloc (chO 4 n to s ln) = wb at *
  unfold chO at hwb
  unfold chV
  go_enter Try.func48, Try.ntmps48
  go_wp2
  go_region
  clear hl1 hl2 k0 hwb
  go_wp2
  go_region_held3 (fun w' => w'.cell? ⟨w.heap.size, 1, none⟩ = some (.string n) ∧ w'.cell? ⟨w.heap.size, 4, none⟩ = some (.int .i64 ln)) (first | exact ⟨b1, b4⟩ | assumption | go_keep) (first | (go_at_call 62; with_reducible (refine (SET.out _ ?_ ?_ ?_).mono ?_); (first | exact HK1.out.1 | exact HK2.out.1); (first | exact HK1.out.2 | exact HK2.out.2); (first | exact HC1.out | exact HC2.out); rintro e w2 ⟨rfl, hc, hA⟩))
  all_goals
    go_wp2
    go_end0
    exact ⟨rfl, hA⟩

theorem set_ext (cs : List Value) (po : Nat) (a b c d : Value) : (((cs.set po a).set (po + 1) b).set po c).set (po + 1) d = (cs.set po c).set (po + 1) d := by
  apply List.ext_getElem?
  intro i
  simp only [List.getElem?_set, List.length_set]
  by_cases h1 : po = i
  · subst h1; simp
  · by_cases h2 : po + 1 = i <;> simp [h1, h2]
theorem set_set (cs : List Value) (po : Nat) (a b d : Value) : ((cs.set po a).set (po + 1) b).set (po + 1) d = (cs.set po a).set (po + 1) d := List.set_set ..

theorem applied_move {w w1 w2 w3 : World} {c : Nat → Nat} {mc pb po : Nat} {cs : List Value} {t : TypeId} {mo : Option Nat} {L : List (Bs × FV)} (h : ApIn w c mc pb po cs t mo L) (ch : Chg) (hne : ch.to ≠ ch.name) (hk1 : Keep (fun _ => False) w w1) (hb : tot (txts L) ≤ 140737488355328)
    (b : Nat) (hbm : mo = some b ∨ b = w1.heap.size) (hk : Keep (fun k => k = pb ∨ mo = some k) w1 w2)
    (hr3 : RowIs w3 pb (((cs.set po (.map (some b))).set (po + 1) (.int .i64 (wrap64 ((tot (txts L) : Nat) + wrap64 (lenV (oldV L ch.name).1 - lenV ((kget (vals L) ch.to).getD (.slice none 0 0))))))).set (po + 1) (.int .i64 (wrap64 (wrap64 ((tot (txts L) : Nat) + wrap64 (lenV (oldV L ch.name).1 - lenV ((kget (vals L) ch.to).getD (.slice none 0 0)))) - lenV ((kget (kput (vals L) ch.to (oldV L ch.name).1) ch.name).getD (.slice none 0 0)))))) t)
    (hm3 : MapV w3 (some b) (kdel (kput (vals L) ch.to (oldV L ch.name).1) ch.name)) (hk3 : Keep (fun k => k = pb ∨ some b = some k) w2 w3)
    (hdo : doC (txts L) ch = kdel (kput (txts L) ch.to (oldV L ch.name).2) ch.name) : Applied w c mc pb po cs t mo L ch w3 := by
  have hl1 := bsl_len (h.fil.old ch.name)
  have hl2 := bsl_len (h.fil.old ch.to)
  have hsz := hk1.size
  have hs2 := hk.size
  have holdl : ∀ n, (oldV L n).2.length ≤ tot (txts L) := fun n => by
    have := oldV_txts L n
    cases hg : kget (txts L) n with
    | none => rw [hg] at this; rw [← this]; simp
    | some b => rw [hg] at this; rw [← this]; exact tot_get hg
  have hL1 := holdl ch.name
  have hL2 := holdl ch.to
  rw [set_set, oldV_vals, kget_put_other _ _ hne, oldV_vals, hl1, hl2] at hr3
  have hT : wrap64 (wrap64 ((tot (txts L) : Nat) + wrap64 ((oldV L ch.name).2.length - (oldV L ch.to).2.length)) - (oldV L ch.name).2.length) = (tot (txts (kdel (kput L ch.to (oldV L ch.name)) ch.name)) : Nat) := by
    have h1 := tot_kput (srt_txts.2 h.fil.srt) ch.to (oldV L ch.name).2
    have h2 := tot_kdel (srt_kput (srt_txts.2 h.fil.srt) ch.to (oldV L ch.name).2) ch.name
    rw [oldV_txts] at h1
    rw [kget_put_other _ _ hne, oldV_txts] at h2
    rw [txts_del, txts_put]
    have e1 := IntWalk.wrap64_in (((oldV L ch.name).2.length : Int) - (oldV L ch.to).2.length) (by omega)
    have e2 := IntWalk.wrap64_in (((tot (txts L) : Nat) : Int) + (((oldV L ch.name).2.length : Int) - (oldV L ch.to).2.length)) (by omega)
    rw [e1, e2, IntWalk.wrap64_in _ (by omega)]
    omega
  rw [hT] at hr3
  have hcol : ∀ x ∈ kdel (kput L ch.to (oldV L ch.name)) ch.name, (∀ g, x.2.1.ownBlock = some g → c g = 3) ∧ BSl w 0 x.2.1 x.2.2 := by
    intro x hx
    rcases mem_kput.1 (mem_kdel.1 hx).1 with rfl | ⟨hx, _⟩
    · exact ⟨h.fil.oldcol ch.name, h.fil.old ch.name⟩
    · exact ⟨h.fil.col x hx, h.fil.row x hx⟩
  have hK : Keep (fun k => k = pb ∨ mo = some k) w w3 := (hk1.mono (fun _ _ h => h.elim)).then (hk.then hk3 (fun j hj e => by
    rcases e with e | e
    · exact .inl e
    · injection e with e
      rcases hbm with e2 | e2
      · exact .inr (by rw [e2, e])
      · omega)) (fun j _ e => e)
  have hK3 : ∀ {y : Value} {U : Bs}, BSl w 0 y U → (∀ g, y.ownBlock = some g → c g = 3) → BSl w3 0 y U := fun hy hyc => hK.bsl hy (fun g e hS => by
    have h3 := hyc g e
    rcases hS with rfl | e2
    · exact h.pb3 h3
    · exact h.mc3 ((h.fil.mcol g e2).symm.trans h3))
  refine ⟨some b, kdel (kput L ch.to (oldV L ch.name)) ch.name, fun k => if k < w.heap.size then c k else mc, hr3, ⟨by rw [vals_del, vals_put]; exact hm3, fun b' e => ?_, fun x hx => hK3 (hcol x hx).2 (hcol x hx).1, fun x hx g e => ?_, fun x hx y hy hxy g e => ?_, srt_kdel (srt_kput h.fil.srt _ _) _⟩,
    by rw [txts_del, txts_put, hdo], fun k hk => if_pos hk, hK.mono (fun k _ e => e.imp id .inl), fun y U hy hyc hs => ⟨hK3 hy hyc, safe_del (safe_put hs (safe_old hs ch.name))⟩, fun n hn hn2 => by rw [kget_del_other _ (fun e => hn e.symm), kget_put_other _ _ (fun e => hn2 e.symm)]⟩
  · injection e with e
    subst e
    rcases hbm with e2 | e2
    · rw [if_pos (h.molt b e2)]; exact h.fil.mcol b e2
    · exact if_neg (by omega)
  · rw [if_pos (bsl_block (hcol x hx).2 e)]; exact (hcol x hx).1 g e
  · have hx1 := mem_kdel.1 hx
    have hy1 := mem_kdel.1 hy
    rcases mem_kput.1 hx1.1 with rfl | ⟨hx2, hx3⟩
    · rcases mem_kput.1 hy1.1 with rfl | ⟨hy2, hy3⟩
      · exact absurd rfl hxy
      · exact h.fil.oldapart ch.name y hy2 hy1.2 g e
    · rcases mem_kput.1 hy1.1 with rfl | ⟨hy2, hy3⟩
      · intro e2; exact h.fil.oldapart ch.name x hx2 hx1.2 g e2 e
      · exact h.fil.apart x hx2 y hy2 hxy g e

set_option maxRecDepth 100000 in
set_option maxHeartbeats 2000000 in
theorem apply_mv (pb po : Nat) (cs : List Value) (t : TypeId) (mo : Option Nat) (L : List (Bs × FV)) (c : Nat → Nat) (mc : Nat) (n to s : ByteArray) (l : Int) (ln : Nat) (w : World) (h : ApIn w c mc pb po cs t mo L) (hn : n.size ≤ maxLen) (ht : to.size ≤ maxLen) (hne : to.data.toList ≠ n.data.toList) (hb : tot (txts L) ≤ 140737488355328) (hlen : L.length + 1 < maxLen) :
    Calls Try.prog 48 #[.pointer (some ⟨pb, po, none⟩), chV 2 n to s l] w fun e w' => e = .returned (.tuple #[]) ∧ Applied w c mc pb po cs t mo L ⟨2, n.data.toList, to.data.toList, s.data.toList, ln⟩ w' := by
  have kb := keep_alloc (fun _ => False) w (chO 2 n to s l)
  have hrowb : RowIs (w.alloc (chO 2 n to s l)) pb cs t := h.row.keep kb (fun h => h)
  have k0 := hrowb.cellAt h.h0
  have hl1 := mapV_look (w := w.alloc (chO 2 n to s l)) (kb.mapV h.fil.map (fun _ _ h => h)) n hn
  have hl2 := mapV_look (w := (w.alloc (chO 2 n to s l)).drew) (kb.mapV h.fil.map (fun _ _ h => h)) n hn
  rw [oldV_vals] at hl1 hl2
  have b0 := ch_cell w 2 n to s l 0
  have b1 := ch_cell w 2 n to s l 1
  have b2 := ch_cell w 2 n to s l 2
  simp only [List.getElem?_toArray, List.getElem?_cons_zero, List.getElem?_cons_succ] at b0 b1 b2
  have hsl := bsl_isSl (h.fil.old n.data.toList)
  have kd : Keep (fun _ => False) w (w.alloc (chO 2 n to s l)).drew := kb.trans (keep_drew _ _)
  have hbs : w.heap.size < (w.alloc (chO 2 n to s l)).drew.heap.size := by show _ < (w.heap.push _).size; simp
  have SET : Hid (Calls Try.prog 62 #[.pointer (some ⟨pb, po, none⟩), .string to, (oldV L n.data.toList).1] (w.alloc (chO 2 n to s l)).drew fun e w1 => e = .returned (.tuple #[]) ∧ w1.cell? ⟨w.heap.size, 1, none⟩ = some (.string n) ∧ SetPost pb po cs t mo (tot (txts L) : Nat) (vals L) to.data.toList (oldV L n.data.toList).1 (w.alloc (chO 2 n to s l)).drew w1) := by
    refine (set_sl pb po cs t mo (tot (txts L) : Nat) (vals L) to _ _ hsl (h.row.keep kd (fun h => h)) h.h0 h.h1 (kd.mapV h.fil.map (fun _ _ h => h)) h.ne h.fil.sl ht (by simpa [vals] using h.len)).mono fun e w1 ⟨he, hp⟩ => ⟨he, ?_, hp⟩
    obtain ⟨b, _, _, _, _, hk⟩ := hp
    refine (hk.cell hbs ?_).trans b1
    rintro (e | e)
    · have := h.row.lt; omega
    · have := h.molt _ e; omega
  have DR : Hid (∀ w1, SetPost pb po cs t mo (tot (txts L) : Nat) (vals L) to.data.toList (oldV L n.data.toList).1 (w.alloc (chO 2 n to s l)).drew w1 → Calls Try.prog 63 #[.pointer (some ⟨pb, po, none⟩), .string n] w1 fun e w' => e = .returned (.tuple #[]) ∧ Applied w c mc pb po cs t mo L ⟨2, n.data.toList, to.data.toList, s.data.toList, ln⟩ w') := by
    intro w1 ⟨b, hbm, hbp, hr, hm, hk⟩
    have hpo : po < cs.length := (List.getElem?_eq_some_iff.1 h.h0).1
    have hpo1 : po + 1 < cs.length := (List.getElem?_eq_some_iff.1 h.h1).1
    refine (drop_any pb po _ t (some b) _ (kput (vals L) to.data.toList (oldV L n.data.toList).1) n w1 hr (by rw [List.getElem?_set_ne (by omega), List.getElem?_set_self hpo]) (by rw [List.getElem?_set_self (by simpa using hpo1)]) (.inr ⟨b, rfl, hm⟩) (fun b' e => by injection e with e; omega) (fun x hx => ?_) hn).mono fun e w' ⟨he, hr3, hm3, hk3⟩ =>
      ⟨he, applied_move h ⟨2, n.data.toList, to.data.toList, s.data.toList, ln⟩ hne kd hb b hbm hk hr3 hm3 hk3 (by unfold doC; simp; rw [oldV_txts])⟩
    rcases mem_kput.1 hx with rfl | ⟨hx, _⟩
    · exact hsl
    · exact h.fil.sl x hx
  generalize oldV L n.data.toList = ov at *
  obtain ⟨v0, T0⟩ := ov
  clear hrowb kb h hb hn hsl kd hbs ht hne hlen
  generalize hwb : w.alloc (chO 2 n to s l) = wb at *
  unfold chO at hwb
  unfold chV
  go_enter Try.func48, Try.ntmps48
  go_wp2
  go_region
  clear hl1 hl2 k0 hwb
  go_wp2_with fail
  refine SET.out.mono ?_
  rintro e w1 ⟨rfl, c1, hp⟩
  have HP := show Hid _ from hp
  clear SET hp
  go_wp2_with fail
  refine (DR.out _ HP.out).mono ?_
  rintro e w2 ⟨rfl, hA⟩
  clear DR HP
  go_wp2
  go_end0
  exact ⟨rfl, hA⟩
end Go.Proofs.Ytnlodlpjokkepab
