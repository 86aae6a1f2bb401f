/- The walk of a change's being done to files: what is written anew, taken away, cut. -/
import Derived.Test.YtnlodlpjokkepabApplyW
namespace Go.Proofs.Ytnlodlpjokkepab
open Go.RowKit Go.Maps
set_option linter.unusedVariables false

theorem applied_del {w w1 w2 : World} {c : Nat → Nat} {mc pb po : Nat} {cs : List Value} {t : TypeId} {mo : Option Nat} {L : List (Bs × FV)} (h : ApIn w c mc pb po cs t mo L) (ch : Chg) (hk1 : Keep (fun _ => False) w w1) (hb : tot (txts L) ≤ 4611686018427387904)
    (hr : RowIs w2 pb (cs.set (po + 1) (.int .i64 (wrap64 ((tot (txts L) : Nat) - lenV ((kget (vals L) ch.name).getD (.slice none 0 0)))))) t) (hm : MapV w2 mo (kdel (vals L) ch.name)) (hk : Keep (fun k => k = pb ∨ mo = some k) w1 w2) (hdo : doC (txts L) ch = kdel (txts L) ch.name) :
    Applied w c mc pb po cs t mo L ch w2 := by
  have hlen := bsl_len (h.fil.old ch.name)
  rw [oldV_vals, used_del h.fil.srt ch.name hlen hb] at hr
  have e : cs.set po (.map mo) = cs := by
    apply List.ext_getElem?
    intro i
    by_cases hi : po = i
    · subst hi; rw [List.getElem?_set_self (List.getElem?_eq_some_iff.1 h.h0).1, h.h0]
    · rw [List.getElem?_set_ne hi]
  have hK : Keep (fun k => k = pb ∨ mo = some k) w w2 := (hk1.mono (fun _ _ h => h.elim)).trans hk
  have hK3 : ∀ {y : Value} {U : Bs}, BSl w 0 y U → (∀ g, y.ownBlock = some g → c g = 3) → BSl w2 0 y U := fun hy hyc => hK.bsl hy (fun g e hS => by
    have h3 := hyc g e
    rcases hS with rfl | e2
    · exact h.pb3 h3
    · exact h.mc3 ((h.fil.mcol g e2).symm.trans h3))
  refine ⟨mo, kdel L ch.name, c, by rw [e]; exact hr, ⟨by rw [vals_del]; exact hm, h.fil.mcol, fun x hx => hK3 (h.fil.row x (mem_kdel.1 hx).1) (h.fil.col x (mem_kdel.1 hx).1), fun x hx => h.fil.col x (mem_kdel.1 hx).1, fun x hx y hy => h.fil.apart x (mem_kdel.1 hx).1 y (mem_kdel.1 hy).1, srt_kdel h.fil.srt _⟩,
    by rw [txts_del, hdo], fun _ _ => rfl, hK.mono (fun k _ e => e.imp id .inl), fun y U hy hyc hs => ⟨hK3 hy hyc, safe_del hs⟩, fun n hn _ => kget_del_other L (fun e => hn e.symm)⟩

set_option maxRecDepth 100000 in
set_option maxHeartbeats 2000000 in
theorem apply_del (pb po : Nat) (cs : List Value) (t : TypeId) (mo : Option Nat) (L : List (Bs × FV)) (c : Nat → Nat) (mc : Nat) (n to s : ByteArray) (l : Int) (ln : Nat) (w : World) (h : ApIn w c mc pb po cs t mo L) (hn : n.size ≤ maxLen) (hb : tot (txts L) ≤ 140737488355328) :
    Calls Try.prog 48 #[.pointer (some ⟨pb, po, none⟩), chV 3 n to s l] w fun e w' => e = .returned (.tuple #[]) ∧ Applied w c mc pb po cs t mo L ⟨3, n.data.toList, to.data.toList, s.data.toList, ln⟩ w' := by
  have kb := keep_alloc (fun _ => False) w (chO 3 n to s l)
  have hrowb : RowIs (w.alloc (chO 3 n to s l)) pb cs t := h.row.keep kb (fun h => h)
  have k0 := hrowb.cellAt h.h0
  have hl1 := mapV_look (w := w.alloc (chO 3 n to s l)) (kb.mapV h.fil.map (fun _ _ h => h)) n hn
  have hl2 := mapV_look (w := (w.alloc (chO 3 n to s l)).drew) (kb.mapV h.fil.map (fun _ _ h => h)) n hn
  rw [oldV_vals] at hl1 hl2
  have b0 := ch_cell w 3 n to s l 0
  have b1 := ch_cell w 3 n to s l 1
  simp only [List.getElem?_toArray, List.getElem?_cons_zero, List.getElem?_cons_succ] at b0 b1
  have DR : Hid (Calls Try.prog 63 #[.pointer (some ⟨pb, po, none⟩), .string n] (w.alloc (chO 3 n to s l)).drew fun e w' => e = .returned (.tuple #[]) ∧ Applied w c mc pb po cs t mo L ⟨3, n.data.toList, to.data.toList, s.data.toList, ln⟩ w') := by
    have kd : Keep (fun _ => False) w (w.alloc (chO 3 n to s l)).drew := kb.trans (keep_drew _ _)
    exact (drop_any pb po cs t mo (tot (txts L) : Nat) (vals L) n _ (h.row.keep kd (fun h => h)) h.h0 h.h1 (kd.mapV h.fil.map (fun _ _ h => h)) h.ne h.fil.sl hn).mono fun e w' ⟨he, hr, hm, hk⟩ =>
      ⟨he, applied_del h _ kd (by omega) hr hm hk (by unfold doC; simp)⟩
  generalize oldV L n.data.toList = ov at *
  obtain ⟨v0, T0⟩ := ov
  clear hrowb kb h hb hn
  generalize hwb : w.alloc (chO 3 n to s l) = wb at *
  unfold chO at hwb
  unfold chV
  go_enter Try.func48, Try.ntmps48
  go_wp2
  go_region
  clear hl1 hl2 k0 hwb
  go_wp2_with fail
  refine DR.out.mono ?_
  rintro e w2 ⟨rfl, hA⟩
  clear DR
  go_wp2
  go_end0
  exact ⟨rfl, hA⟩

set_option maxRecDepth 100000 in
set_option maxHeartbeats 2000000 in
theorem apply_wr (pb po : Nat) (cs : List Value) (t : TypeId) (mo : Option Nat) (L : List (Bs × FV)) (c : Nat → Nat) (mc : Nat) (n to s : ByteArray) (l : Int) (ln : Nat) (w : World) (h : ApIn w c mc pb po cs t mo L) (hn : n.size ≤ maxLen) (hb : tot (txts L) + s.size ≤ 140737488355328) :
    Calls Try.prog 48 #[.pointer (some ⟨pb, po, none⟩), chV 1 n to s l] w fun e w' => e = .returned (.tuple #[]) ∧ Applied w c mc pb po cs t mo L ⟨1, n.data.toList, to.data.toList, s.data.toList, ln⟩ w' := by
  have hsz : s.data.toList.length = s.size := by simp
  have kb := keep_alloc (fun _ => False) w (chO 1 n to s l)
  have hrowb : RowIs (w.alloc (chO 1 n to s l)) pb cs t := h.row.keep kb (fun h => h)
  have k0 := hrowb.cellAt h.h0
  have hl1 := mapV_look (w := w.alloc (chO 1 n to s l)) (kb.mapV h.fil.map (fun _ _ h => h)) n hn
  have hl2 := mapV_look (w := (w.alloc (chO 1 n to s l)).drew) (kb.mapV h.fil.map (fun _ _ h => h)) n hn
  rw [oldV_vals] at hl1 hl2
  have b0 := ch_cell w 1 n to s l 0
  have b1 := ch_cell w 1 n to s l 1
  have b3 := ch_cell w 1 n to s l 3
  simp only [List.getElem?_toArray, List.getElem?_cons_zero, List.getElem?_cons_succ] at b0 b1 b3
  obtain ⟨v1, w1, hcv, hbr, hbel⟩ := brow_made (w.alloc (chO 1 n to s l)).drew s
  have SET : Hid (Calls Try.prog 62 #[.pointer (some ⟨pb, po, none⟩), .string n, v1] w1 fun e w' => e = .returned (.tuple #[]) ∧ Applied w c mc pb po cs t mo L ⟨1, n.data.toList, to.data.toList, s.data.toList, ln⟩ w') := by
    have kd : Keep (fun _ => False) w w1 := (kb.trans (keep_drew _ _)).trans (hbel.keep _)
    have hs1 : w.heap.size ≤ (w.alloc (chO 1 n to s l)).drew.heap.size := by show w.heap.size ≤ (w.heap.push _).size; simp
    have hgb : ∀ g, v1.ownBlock = some g → w.heap.size ≤ g := fun g e => by
      obtain ⟨g', cap, rfl, h1, _⟩ := hbr
      simp [Value.ownBlock] at e; omega
    have hv : BSl w1 0 v1 s.data.toList := by
      obtain ⟨g', cap, rfl, h1, r⟩ := hbr
      exact .inr ⟨g', cap, rfl, Nat.zero_le _, r⟩
    refine (set_put h ⟨1, n.data.toList, to.data.toList, s.data.toList, ln⟩ n rfl v1 _ hv ?_ (kd.mono (fun _ _ h => h.elim)) (fun y U hy hf => ⟨kd.bsl hy (fun _ _ h => h), ?_⟩) (by rw [hsz]; omega) hn ?_).mono fun e w' ⟨he, hA, hc⟩ => ⟨he, hA⟩
    · obtain ⟨g', cap, rfl, h1, _⟩ := hbr
      exact .inr ⟨g', rfl, by omega⟩
    · intro g n1 c1 n2 c2 e1 e2
      have h1 := hgb g (by rw [e1]; rfl)
      have h2 := bsl_block hy (g := g) (by rw [e2]; rfl)
      omega
    · unfold doC; simp
  generalize oldV L n.data.toList = ov at *
  obtain ⟨v0, T0⟩ := ov
  clear hrowb kb h hb hn hbr hbel hsz
  generalize hwb : w.alloc (chO 1 n to s l) = wb at *
  unfold chO at hwb
  unfold chV
  go_enter Try.func48, Try.ntmps48
  go_wp2
  go_region
  clear hl1 hl2 k0 hwb
  go_wp2_with fail
  refine SET.out.mono ?_
  rintro e w2 ⟨rfl, hA⟩
  clear SET
  go_wp2
  go_end0
  exact ⟨rfl, hA⟩
end Go.Proofs.Ytnlodlpjokkepab
