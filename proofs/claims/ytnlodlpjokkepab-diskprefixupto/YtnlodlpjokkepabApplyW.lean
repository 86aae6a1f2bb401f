/- The walk of a change's being done to files: what is appended. -/
import Derived.Test.YtnlodlpjokkepabApply
import Derived.BigRegion
namespace Go.Proofs.Ytnlodlpjokkepab
open Go.RowKit Go.Maps
set_option linter.unusedVariables false

/-- a change's value -/
def chV (k : Int) (n t s : ByteArray) (l : Int) : Value := .agg #[.int .i64 k, .string n, .string t, .string s, .int .i64 l]
/-- the block in which it lies -/
def chO (k : Int) (n t s : ByteArray) (l : Int) : Obj := .cells #[.int .i64 k, .string n, .string t, .string s, .int .i64 l] 86
theorem ch_cell (w : World) (k : Int) (n t s : ByteArray) (l : Int) (j : Nat) : (w.alloc (chO k n t s l)).cell? ⟨w.heap.size, j, none⟩ = #[Value.int .i64 k, .string n, .string t, .string s, .int .i64 l][j]? := cell_of_row _ _ _ _ _ _ (heap_alloc_new _ _)

theorem apIn_map {w w1 : World} {c : Nat → Nat} {mc pb po : Nat} {cs : List Value} {t : TypeId} {mo : Option Nat} {L : List (Bs × FV)} (h : ApIn w c mc pb po cs t mo L) (n : Bs) (hk1 : Keep (fun k => (oldV L n).1.ownBlock = some k) w w1) : RowIs w1 pb cs t ∧ MapV w1 mo (vals L) :=
  ⟨h.row.keep hk1 (fun e => h.pb3 (h.fil.oldcol n pb e)), hk1.mapV h.fil.map (fun g e e2 => h.mc3 ((h.fil.mcol g e).symm.trans (h.fil.oldcol n g e2)))⟩

/-- 'set' behind 'append', or the like -/
theorem set_put {w w1 : World} {c : Nat → Nat} {mc pb po : Nat} {cs : List Value} {t : TypeId} {mo : Option Nat} {L : List (Bs × FV)} (h : ApIn w c mc pb po cs t mo L) (ch : Chg) (s : ByteArray) (hn : s.data.toList = ch.name) (v : Value) (T : Bs)
    (hv : BSl w1 0 v T) (hloc : v.ownBlock = (oldV L ch.name).1.ownBlock ∨ ∃ g, v.ownBlock = some g ∧ w.heap.size ≤ g) (hk1 : Keep (fun k => (oldV L ch.name).1.ownBlock = some k) w w1)
    (hP : ∀ y U, BSl w 0 y U → Fits (oldV L ch.name).1 y → BSl w1 0 y U ∧ Fits v y) (hb : tot (txts L) + T.length ≤ 4611686018427387904) (hs : s.size ≤ maxLen) (hdo : doC (txts L) ch = kput (txts L) ch.name T) :
    Calls Try.prog 62 #[.pointer (some ⟨pb, po, none⟩), .string s, v] w1 fun e w' => e = .returned (.tuple #[]) ∧ Applied w c mc pb po cs t mo L ch w' ∧ ∀ g o, w.heap.size ≤ g → g < w1.heap.size → w'.cell? ⟨g, o, none⟩ = w1.cell? ⟨g, o, none⟩ := by
  obtain ⟨hr, hm⟩ := apIn_map h ch.name hk1
  refine (set_sl pb po cs t mo (tot (txts L) : Nat) (vals L) s v w1 (bsl_isSl hv) hr h.h0 h.h1 hm h.ne h.fil.sl hs (by simpa [vals] using h.len)).mono fun e w' ⟨he, hp⟩ => ⟨he, ?_⟩
  rw [hn] at hp
  refine ⟨applied_put h ch v T hv hloc hk1 hP hb hp hdo, fun g o h1 h2 => ?_⟩
  obtain ⟨b, _, _, _, _, hk⟩ := hp
  refine hk.cell h2 ?_
  rintro (rfl | e)
  · have := h.row.lt; omega
  · have := h.molt g e; omega

set_option maxRecDepth 100000 in
set_option maxHeartbeats 2000000 in
theorem apply_app (pb po : Nat) (cs : List Value) (t : TypeId) (mo : Option Nat) (L : List (Bs × FV)) (c : Nat → Nat) (mc : Nat) (n to s : ByteArray) (l : Int) (ln : Nat) (w : World) (h : ApIn w c mc pb po cs t mo L) (hn : n.size ≤ maxLen) (hb : tot (txts L) + s.size ≤ 140737488355328) :
    Calls Try.prog 48 #[.pointer (some ⟨pb, po, none⟩), chV 0 n to s l] w fun e w' => e = .returned (.tuple #[]) ∧ Applied w c mc pb po cs t mo L ⟨0, n.data.toList, to.data.toList, s.data.toList, ln⟩ w' := by
  have hsz : s.data.toList.length = s.size := by simp
  have hlt := h.row.lt
  have hold := h.fil.old n.data.toList
  have holdl : (oldV L n.data.toList).2.length ≤ tot (txts L) := by
    have := oldV_txts L n.data.toList
    cases hg : kget (txts L) n.data.toList with
    | none => rw [hg] at this; rw [← this]; simp
    | some b => rw [hg] at this; rw [← this]; exact tot_get hg
  have kb := keep_alloc (fun _ => False) w (chO 0 n to s l)
  have hrowb : RowIs (w.alloc (chO 0 n to s l)) pb cs t := h.row.keep kb (fun h => h)
  have k0 := hrowb.cellAt h.h0
  have hl1 := mapV_look (w := w.alloc (chO 0 n to s l)) (kb.mapV h.fil.map (fun _ _ h => h)) n hn
  have hl2 := mapV_look (w := (w.alloc (chO 0 n to s l)).drew) (kb.mapV h.fil.map (fun _ _ h => h)) n hn
  rw [oldV_vals] at hl1 hl2
  have b0 := ch_cell w 0 n to s l 0
  have b1 := ch_cell w 0 n to s l 1
  have b3 := ch_cell w 0 n to s l 3
  simp only [List.getElem?_toArray, List.getElem?_cons_zero, List.getElem?_cons_succ] at b0 b1 b3
  have HB : Hid (BSl (w.alloc (chO 0 n to s l)) 0 (oldV L n.data.toList).1 (oldV L n.data.toList).2) := kb.bsl hold (fun _ _ h => h)
  have HLN : Hid ((oldV L n.data.toList).2.length + s.size ≤ 140737488355328) := by show _ ≤ _; omega
  have hbx : ∀ v1 w1, More (w.alloc (chO 0 n to s l)) (oldV L n.data.toList).1 (oldV L n.data.toList).2 s.data.toList v1 w1 → w1.cell? ⟨w.heap.size, 1, none⟩ = some (.string n) ∧ w1.cell? ⟨w.heap.size, 3, none⟩ = some (.string s) := by
    intro v1 w1 hm
    have hne : ¬ (oldV L n.data.toList).1.ownBlock = some w.heap.size := fun e => by have := bsl_block hold e; omega
    exact ⟨(hm.keep.cell (by simp) hne).trans b1, (hm.keep.cell (by simp) hne).trans b3⟩
  have MC := show Hid _ from hbx
  have SET : Hid (∀ v1 w1, More (w.alloc (chO 0 n to s l)) (oldV L n.data.toList).1 (oldV L n.data.toList).2 s.data.toList v1 w1 → Calls Try.prog 62 #[.pointer (some ⟨pb, po, none⟩), .string n, v1] w1 fun e w' => e = .returned (.tuple #[]) ∧ (w'.cell? ⟨w.heap.size, 1, none⟩ = some (.string n) ∧ w'.cell? ⟨w.heap.size, 3, none⟩ = some (.string s)) ∧ Applied w c mc pb po cs t mo L ⟨0, n.data.toList, to.data.toList, s.data.toList, ln⟩ w') := by
    intro v1 w1 hm
    have hbx1 := hbx v1 w1 hm
    have hsz1 := hm.keep.size
    simp at hsz1
    refine (set_put h ⟨0, n.data.toList, to.data.toList, s.data.toList, ln⟩ n rfl v1 _ hm.is ?_ ((kb.mono (fun _ _ h => h.elim)).trans hm.keep) (fun y U hy hf => hm.beside y U (kb.bsl hy (fun _ _ h => h)) hf) (by rw [List.length_append, hsz]; omega) hn ?_).mono fun e w' ⟨he, hA, hc⟩ => ⟨he, ⟨(hc _ _ (Nat.le_refl _) (by omega)).trans hbx1.1, (hc _ _ (Nat.le_refl _) (by omega)).trans hbx1.2⟩, hA⟩
    · rcases hm.loc with e | ⟨g, e, hg⟩
      · exact .inl e
      · exact .inr ⟨g, e, by simp at hg; omega⟩
    · unfold doC; simp only [if_true]; rw [oldV_txts]
  generalize oldV L n.data.toList = ov at *
  obtain ⟨v0, T0⟩ := ov
  clear hrowb kb hlt hold holdl h hb hn hbx hsz
  generalize hwb : w.alloc (chO 0 n to s l) = wb at *
  unfold chO at hwb
  unfold chV
  go_enter Try.func48, Try.ntmps48
  go_wp2
  go_region
  clear hl1 hl2 k0 hwb
  go_wp2
  have HK2 : Hid (Keep (fun _ => False) wb wb.drew) := keep_drew _ _
  have HK3 : Hid (Keep (fun _ => False) wb wb.drew.drew) := (keep_drew _ wb).trans (keep_drew _ _)
  go_region_held3 (fun w' => w'.cell? ⟨w.heap.size, 1, none⟩ = some (.string n) ∧ w'.cell? ⟨w.heap.size, 3, none⟩ = some (.string s)) (first | exact ⟨b1, b3⟩ | exact MC.out _ _ (by assumption) | assumption | go_keep) (first | (refine step_more (w0 := wb) (by rfl) _ _ (by rfl) v0 T0 s (by rfl) (by first | exact HK2.out | exact HK3.out) (by rfl) (by rfl) HB.out HLN.out ?_; intro v1 w1 hm1) | (go_at_call 62; with_reducible (refine (SET.out _ _ ?_).mono ?_); with_reducible assumption; rintro e w2 ⟨rfl, hc, hA⟩))
  all_goals
    go_wp2
    go_end0
    exact ⟨rfl, hA⟩
end Go.Proofs.Ytnlodlpjokkepab
