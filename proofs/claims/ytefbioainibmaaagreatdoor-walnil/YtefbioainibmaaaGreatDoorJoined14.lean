/- Joined: The walk of a change's being done to files. The walk of a change's being done to files: what is appended. The walk of a change's being done to files: what is written anew, taken away, cut. The walk of a change's being done to files: what is cut, what is moved. A change's being done to files, whatever it is; and its first bytes alone. The walks of a disk's small questions. -/
import Derived.Test.YtefbioainibmaaaGreatDoorJoined13
import Derived.Deep.RegionHeld3
import Derived.IntWalk
import Derived.BigRegion
import Derived.Test.YtefbioainibmaaaGreatDoorJoined04
import Derived.Test.YtefbioainibmaaaGreatDoorJoined01
namespace Go.Proofs.YtefbioainibmaaaGreatDoor
open Go.RowKit Go.Maps
set_option linter.unusedVariables false

/-- what 'append' leaves -/
structure More (w : World) (v : Value) (T s : Bs) (v' : Value) (w' : World) : Prop where
  is : BSl w' 0 v' (T ++ s)
  loc : v'.ownBlock = v.ownBlock ∨ ∃ g, v'.ownBlock = some g ∧ w.heap.size ≤ g
  keep : Keep (fun k => v.ownBlock = some k) w w'
  beside : ∀ y U, BSl w 0 y U → Fits v y → BSl w' 0 y U ∧ Fits v' y

theorem bsl_heap {w w' : World} (h : w'.heap = w.heap) {v : Value} {T : Bs} (hb : BSl w 0 v T) : BSl w' 0 v T := by
  rcases hb with h0 | ⟨g, cap, hv, c1, c2, c3, c4, c5⟩
  · exact .inl h0
  · exact .inr ⟨g, cap, hv, c1, by rw [h]; exact c2, c3, fun j hj => by rw [show w'.cell? ⟨g, j, none⟩ = w.cell? ⟨g, j, none⟩ by simp [World.cell?, h]]; exact c4 j hj, fun j hj => by rw [show w'.cell? ⟨g, j, none⟩ = w.cell? ⟨g, j, none⟩ by simp [World.cell?, h], show w'.frozen? ⟨g, j, none⟩ = w.frozen? ⟨g, j, none⟩ by simp [World.frozen?, h]]; exact c5 j hj⟩

/-- 'append(b, s...)' as one step of a region that draws -/
theorem step_more {w w0 : World} {ops : Array Oper} {o : Oper} {a : Act} {K : Act → World → Prop} {Q : Exit → Act → World → Prop} {E : Prop} (hgd : o.guard = none) (sl x : Operand)
    (ho : o.op = .call { callee := .builtin .append, args := #[sl, x], argTypes := #[143, 9] }) (v : Value) (T : Bs) (s : ByteArray) (hw : w.heap = w0.heap) (hK : Keep (fun _ => False) w0 w) (hs : a.eval sl = v) (hx : a.eval x = .string s)
    (h0 : BSl w0 0 v T) (hl : T.length + s.size ≤ 140737488355328)
    (h : ∀ v' w', More w0 v T s.data.toList v' w' → K (a.put o.dst v') w') : if Region.wanted o (yielded ops a.tmps) = true then Oper.wp Tryz.prog o a w K Q else E := by
  have hwn : Region.wanted o (yielded ops a.tmps) = true := by simp [Region.wanted, hgd]
  rw [if_pos hwn]
  obtain ⟨v', w', hr, h2, h3, h4, h5⟩ := bsl_more w v T s o.type (bsl_heap hw h0) hl
  unfold Oper.wp execOp
  simp only [ho, resolve, invoke, builtin, Sem.run_bind, Sem.run_pure, Result.andThen_ok, List.map_toArray, List.map_cons, List.map_nil, hs, hx, hr, Oper.upon]
  exact h v' w' ⟨h2, h3.imp id (fun e => ⟨_, e, by rw [hw]; exact Nat.le_refl _⟩), (hK.mono (fun _ _ h => h.elim)).trans h4, fun y U hy hf => h5 y U (bsl_heap hw hy) hf⟩

/-- what is left where a change was done -/
def Applied (w : World) (c : Nat → Nat) (mc pb po : Nat) (cs : List Value) (t : TypeId) (mo : Option Nat) (L : List (Bs × FV)) (ch : Chg) (w' : World) : Prop :=
  ∃ mo' L' c', RowIs w' pb ((cs.set po (.map mo')).set (po + 1) (.int .i64 (tot (txts L')))) t ∧ FilIs w' c' mc mo' L' ∧ txts L' = doC (txts L) ch ∧ (∀ k, k < w.heap.size → c' k = c k) ∧
    Keep (fun k => k = pb ∨ mo = some k ∨ c k = 3) w w' ∧ (∀ y U, BSl w 0 y U → (∀ g, y.ownBlock = some g → c g = 3) → Safe L y → BSl w' 0 y U ∧ Safe L' y) ∧ (∀ n, n ≠ ch.name → n ≠ ch.to → kget L' n = kget L n) ∧
    ∀ x ∈ L', ∀ g, x.2.1.ownBlock = some g → w.heap.size ≤ g ∨ ∃ x0 ∈ L, x0.2.1.ownBlock = some g ∧ (x0.1 = x.1 ∨ x0.1 = ch.name)
theorem old_mem {L : List (Bs × FV)} {n : Bs} {g : Nat} (h : (oldV L n).1.ownBlock = some g) : ∃ x0 ∈ L, x0.2.1.ownBlock = some g ∧ x0.1 = n := by
  unfold oldV at h
  cases hg : kget L n with
  | none => rw [hg] at h; simp [Value.ownBlock] at h
  | some v => rw [hg] at h; exact ⟨(n, v), kget_mem hg, h, rfl⟩

theorem used_put {L : List (Bs × FV)} (hs : Srt L) (n : Bs) (v : Value) (T : Bs) (hold : lenV (oldV L n).1 = (oldV L n).2.length) (hb : tot (txts L) + T.length ≤ 4611686018427387904) :
    wrap64 ((tot (txts L) : Nat) + wrap64 (T.length - lenV (oldV L n).1)) = (tot (txts (kput L n (v, T))) : Nat) := by
  have h1 := tot_kput (srt_txts.2 hs) n T
  rw [oldV_txts] at h1
  rw [txts_put, hold]
  simp only
  rw [IntWalk.wrap64_in (_ - _) (by omega), IntWalk.wrap64_in _ (by omega)]
  omega
theorem used_del {L : List (Bs × FV)} (hs : Srt L) (n : Bs) (hold : lenV (oldV L n).1 = (oldV L n).2.length) (hb : tot (txts L) ≤ 4611686018427387904) :
    wrap64 ((tot (txts L) : Nat) - lenV (oldV L n).1) = (tot (txts (kdel L n)) : Nat) := by
  have h1 := tot_kdel (srt_txts.2 hs) n
  rw [oldV_txts] at h1
  rw [txts_del, hold]
  rw [IntWalk.wrap64_in _ (by omega)]
  omega
theorem safe_put {L : List (Bs × FV)} {y : Value} {n : Bs} {v : FV} (h : Safe L y) (hv : Fits v.1 y) : Safe (kput L n v) y := by
  intro x hx
  rcases mem_kput.1 hx with rfl | ⟨hx, _⟩
  · exact hv
  · exact h x hx
theorem safe_del {L : List (Bs × FV)} {y : Value} {n : Bs} (h : Safe L y) : Safe (kdel L n) y := fun x hx => h x (mem_kdel.1 hx).1

/-- what 'set' leaves, as the walks take it -/
def SetPost (pb po : Nat) (cs : List Value) (t : TypeId) (mo : Option Nat) (u : Int) (Lv : List (Bs × Value)) (n : Bs) (v : Value) (w w' : World) : Prop :=
  ∃ b, (mo = some b ∨ b = w.heap.size) ∧ b ≠ pb ∧ RowIs w' pb ((cs.set po (.map (some b))).set (po + 1) (.int .i64 (wrap64 (u + wrap64 (lenV v - lenV ((kget Lv n).getD (.slice none 0 0))))))) t ∧ MapIs w' b (kput Lv n v) ∧ Keep (fun k => k = pb ∨ mo = some k) w w'
theorem set_sl (pb po : Nat) (cs : List Value) (t : TypeId) (mo : Option Nat) (u : Int) (L : List (Bs × Value)) (s : ByteArray) (v : Value) (w : World) (hv : IsSl v) (hrow : RowIs w pb cs t) (h0 : cs[po]? = some (.map mo)) (h1 : cs[po + 1]? = some (.int .i64 u))
    (hm : MapV w mo L) (hne : ∀ b, mo = some b → b ≠ pb) (hsl : ∀ x ∈ L, IsSl x.2) (hs : s.size ≤ maxLen) (hl : L.length < maxLen) :
    Calls Tryz.prog 115 #[.pointer (some ⟨pb, po, none⟩), .string s, v] w fun e w' => e = .returned (.tuple #[]) ∧ SetPost pb po cs t mo u L s.data.toList v w w' := by
  obtain ⟨ad, n, c, rfl⟩ := hv
  exact set_any pb po cs t mo u L s ad n c w hrow h0 h1 hm hne hsl hs hl

/-- what a walk through 'apply' is given -/
structure ApIn (w : World) (c : Nat → Nat) (mc pb po : Nat) (cs : List Value) (t : TypeId) (mo : Option Nat) (L : List (Bs × FV)) : Prop where
  row : RowIs w pb cs t
  h0 : cs[po]? = some (.map mo)
  h1 : cs[po + 1]? = some (.int .i64 (tot (txts L)))
  fil : FilIs w c mc mo L
  mc3 : mc ≠ 3
  pb3 : c pb ≠ 3
  pbm : c pb ≠ mc
  len : L.length < maxLen
theorem ApIn.ne {w : World} {c : Nat → Nat} {mc pb po : Nat} {cs : List Value} {t : TypeId} {mo : Option Nat} {L : List (Bs × FV)} (h : ApIn w c mc pb po cs t mo L) : ∀ b, mo = some b → b ≠ pb := fun b e e2 => h.pbm (e2 ▸ h.fil.mcol b e)
theorem ApIn.molt {w : World} {c : Nat → Nat} {mc pb po : Nat} {cs : List Value} {t : TypeId} {mo : Option Nat} {L : List (Bs × FV)} (h : ApIn w c mc pb po cs t mo L) : ∀ b, mo = some b → b < w.heap.size := fun b e => by
  rcases h.fil.map with ⟨h0, _⟩ | ⟨b', h0, hm⟩
  · rw [h0] at e; cases e
  · rw [h0] at e; injection e with e; subst e; exact hm.lt

/-- a file is laid, its bytes in the old one's block or in a new one: what is left behind 'set' -/
theorem applied_put {w w1 w2 : World} {c : Nat → Nat} {mc pb po : Nat} {cs : List Value} {t : TypeId} {mo : Option Nat} {L : List (Bs × FV)} (h : ApIn w c mc pb po cs t mo L) (ch : Chg) (v : Value) (T : Bs)
    (hv : BSl w1 0 v T) (hloc : v.ownBlock = (oldV L ch.name).1.ownBlock ∨ ∃ g, v.ownBlock = some g ∧ w.heap.size ≤ g) (hk1 : Keep (fun k => (oldV L ch.name).1.ownBlock = some k) w w1)
    (hP : ∀ y U, BSl w 0 y U → Fits (oldV L ch.name).1 y → BSl w1 0 y U ∧ Fits v y) (hb : tot (txts L) + T.length ≤ 4611686018427387904)
    (hset : SetPost pb po cs t mo (tot (txts L) : Nat) (vals L) ch.name v w1 w2) (hdo : doC (txts L) ch = kput (txts L) ch.name T) : Applied w c mc pb po cs t mo L ch w2 := by
  obtain ⟨b, hbm, hbp, hr, hm, hk⟩ := hset
  have hlen := bsl_len (h.fil.old ch.name)
  rw [oldV_vals, bsl_len hv, used_put h.fil.srt ch.name v T hlen hb] at hr
  have hsz := hk1.size
  have hvl : ∀ g, v.ownBlock = some g → g < w1.heap.size := fun g e => bsl_block hv e
  have hbl : b < w.heap.size → c b = mc := by
    intro hlt
    rcases hbm with e | e
    · exact h.fil.mcol b e
    · omega
  refine ⟨some b, kput L ch.name (v, T), fun k => if k < w.heap.size then c k else if k = b then mc else 3, hr, ?_, by rw [txts_put, hdo], fun k hk => if_pos hk, ?_, fun y U hy hyc hsafe => ?_, fun n hn _ => kget_put_other L _ (fun e => hn e.symm), fun x hx g e => ?_⟩
  · refine h.fil.put ch.name v T b hv hloc (fun y U hy hf => (hP y U hy hf).1) hk (fun k hkl hS => ?_) hm ?_ (fun k hk => if_pos hk) (fun g e hg => ?_)
    · rcases hS with rfl | e
      · rw [if_pos h.row.lt]; exact h.pb3
      · rw [if_pos (h.molt k e), h.fil.mcol k e]; exact h.mc3
    · by_cases hlt : b < w.heap.size
      · rw [if_pos hlt]; exact hbl hlt
      · rw [if_neg hlt, if_pos rfl]
    · have hgb : g ≠ b := by
        rcases hbm with e' | e'
        · have := h.molt b e'; omega
        · have := hvl g e; omega
      rw [if_neg (by omega), if_neg hgb]
  · refine (hk1.mono fun k _ e => .inr (.inr (h.fil.oldcol ch.name k e))).then hk fun j hj e => e.imp id .inl
  · have hf := safe_old hsafe ch.name
    have h1 := hP y U hy hf
    refine ⟨hk.bsl h1.1 ?_, safe_put hsafe h1.2⟩
    intro g e hS
    have h3 := hyc g e
    rcases hS with rfl | e2
    · exact h.pb3 h3
    · exact h.mc3 ((h.fil.mcol g e2).symm.trans h3)
  · rcases mem_kput.1 hx with rfl | ⟨hx, _⟩
    · rcases hloc with h1 | ⟨g', h1, h2⟩
      · obtain ⟨x0, h3, h4, h5⟩ := old_mem (h1.symm.trans e)
        exact .inr ⟨x0, h3, h4, .inr h5⟩
      · have e9 : some g' = some g := h1.symm.trans e
        exact .inl (by have := Option.some.inj e9; omega)
    · exact .inr ⟨x, hx, e, .inl rfl⟩
end Go.Proofs.YtefbioainibmaaaGreatDoor
namespace Go.Proofs.YtefbioainibmaaaGreatDoor
open Go.RowKit Go.Maps
set_option linter.unusedVariables false

/-- a change's value -/
def chV (k : Int) (n t s : ByteArray) (l : Int) : Value := .agg #[.int .i64 k, .string n, .string t, .string s, .int .i64 l]
/-- the block in which it lies -/
def chO (k : Int) (n t s : ByteArray) (l : Int) : Obj := .cells #[.int .i64 k, .string n, .string t, .string s, .int .i64 l] 131
theorem ch_cell (w : World) (k : Int) (n t s : ByteArray) (l : Int) (j : Nat) : (w.alloc (chO k n t s l)).cell? ⟨w.heap.size, j, none⟩ = #[Value.int .i64 k, .string n, .string t, .string s, .int .i64 l][j]? := cell_of_row _ _ _ _ _ _ (heap_alloc_new _ _)

theorem apIn_map {w w1 : World} {c : Nat → Nat} {mc pb po : Nat} {cs : List Value} {t : TypeId} {mo : Option Nat} {L : List (Bs × FV)} (h : ApIn w c mc pb po cs t mo L) (n : Bs) (hk1 : Keep (fun k => (oldV L n).1.ownBlock = some k) w w1) : RowIs w1 pb cs t ∧ MapV w1 mo (vals L) :=
  ⟨h.row.keep hk1 (fun e => h.pb3 (h.fil.oldcol n pb e)), hk1.mapV h.fil.map (fun g e e2 => h.mc3 ((h.fil.mcol g e).symm.trans (h.fil.oldcol n g e2)))⟩

/-- 'set' behind 'append', or the like -/
theorem set_put {w w1 : World} {c : Nat → Nat} {mc pb po : Nat} {cs : List Value} {t : TypeId} {mo : Option Nat} {L : List (Bs × FV)} (h : ApIn w c mc pb po cs t mo L) (ch : Chg) (s : ByteArray) (hn : s.data.toList = ch.name) (v : Value) (T : Bs)
    (hv : BSl w1 0 v T) (hloc : v.ownBlock = (oldV L ch.name).1.ownBlock ∨ ∃ g, v.ownBlock = some g ∧ w.heap.size ≤ g) (hk1 : Keep (fun k => (oldV L ch.name).1.ownBlock = some k) w w1)
    (hP : ∀ y U, BSl w 0 y U → Fits (oldV L ch.name).1 y → BSl w1 0 y U ∧ Fits v y) (hb : tot (txts L) + T.length ≤ 4611686018427387904) (hs : s.size ≤ maxLen) (hdo : doC (txts L) ch = kput (txts L) ch.name T) :
    Calls Tryz.prog 115 #[.pointer (some ⟨pb, po, none⟩), .string s, v] w1 fun e w' => e = .returned (.tuple #[]) ∧ Applied w c mc pb po cs t mo L ch w' ∧ ∀ g o, w.heap.size ≤ g → g < w1.heap.size → w'.cell? ⟨g, o, none⟩ = w1.cell? ⟨g, o, none⟩ := by
  obtain ⟨hr, hm⟩ := apIn_map h ch.name hk1
  refine (set_sl pb po cs t mo (tot (txts L) : Nat) (vals L) s v w1 (bsl_isSl hv) hr h.h0 h.h1 hm h.ne h.fil.sl hs (by simpa [vals] using h.len)).mono fun e w' ⟨he, hp⟩ => ⟨he, ?_⟩
  rw [hn] at hp
  refine ⟨applied_put h ch v T hv hloc hk1 hP hb hp hdo, fun g o h1 h2 => ?_⟩
  obtain ⟨b, _, _, _, _, hk⟩ := hp
  refine hk.cell h2 ?_
  rintro (rfl | e)
  · have := h.row.lt; omega
  · have := h.molt g e; omega

set_option maxRecDepth 100000 in
set_option maxHeartbeats 2000000 in
theorem apply_app (pb po : Nat) (cs : List Value) (t : TypeId) (mo : Option Nat) (L : List (Bs × FV)) (c : Nat → Nat) (mc : Nat) (n to s : ByteArray) (l : Int) (ln : Nat) (w : World) (h : ApIn w c mc pb po cs t mo L) (hn : n.size ≤ maxLen) (hb : tot (txts L) + s.size ≤ 140737488355328) :
    Calls Tryz.prog 69 #[.pointer (some ⟨pb, po, none⟩), chV 0 n to s l] w fun e w' => e = .returned (.tuple #[]) ∧ Applied w c mc pb po cs t mo L ⟨0, n.data.toList, to.data.toList, s.data.toList, ln⟩ w' := by
  have hsz : s.data.toList.length = s.size := by simp
  have hlt := h.row.lt
  have hold := h.fil.old n.data.toList
  have holdl : (oldV L n.data.toList).2.length ≤ tot (txts L) := by
    have := oldV_txts L n.data.toList
    cases hg : kget (txts L) n.data.toList with
    | none => rw [hg] at this; rw [← this]; simp
    | some b => rw [hg] at this; rw [← this]; exact tot_get hg
  have kb := keep_alloc (fun _ => False) w (chO 0 n to s l)
  have hrowb : RowIs (w.alloc (chO 0 n to s l)) pb cs t := h.row.keep kb (fun h => h)
  have k0 := hrowb.cellAt h.h0
  have hl1 := mapV_look (w := w.alloc (chO 0 n to s l)) (kb.mapV h.fil.map (fun _ _ h => h)) n hn
  have hl2 := mapV_look (w := (w.alloc (chO 0 n to s l)).drew) (kb.mapV h.fil.map (fun _ _ h => h)) n hn
  rw [oldV_vals] at hl1 hl2
  have b0 := ch_cell w 0 n to s l 0
  have b1 := ch_cell w 0 n to s l 1
  have b3 := ch_cell w 0 n to s l 3
  simp only [List.getElem?_toArray, List.getElem?_cons_zero, List.getElem?_cons_succ] at b0 b1 b3
  have HB : Hid (BSl (w.alloc (chO 0 n to s l)) 0 (oldV L n.data.toList).1 (oldV L n.data.toList).2) := kb.bsl hold (fun _ _ h => h)
  have HLN : Hid ((oldV L n.data.toList).2.length + s.size ≤ 140737488355328) := by show _ ≤ _; omega
  have hbx : ∀ v1 w1, More (w.alloc (chO 0 n to s l)) (oldV L n.data.toList).1 (oldV L n.data.toList).2 s.data.toList v1 w1 → w1.cell? ⟨w.heap.size, 1, none⟩ = some (.string n) ∧ w1.cell? ⟨w.heap.size, 3, none⟩ = some (.string s) := by
    intro v1 w1 hm
    have hne : ¬ (oldV L n.data.toList).1.ownBlock = some w.heap.size := fun e => by have := bsl_block hold e; omega
    exact ⟨(hm.keep.cell (by simp) hne).trans b1, (hm.keep.cell (by simp) hne).trans b3⟩
  have MC := show Hid _ from hbx
  have SET : Hid (∀ v1 w1, More (w.alloc (chO 0 n to s l)) (oldV L n.data.toList).1 (oldV L n.data.toList).2 s.data.toList v1 w1 → Calls Tryz.prog 115 #[.pointer (some ⟨pb, po, none⟩), .string n, v1] w1 fun e w' => e = .returned (.tuple #[]) ∧ (w'.cell? ⟨w.heap.size, 1, none⟩ = some (.string n) ∧ w'.cell? ⟨w.heap.size, 3, none⟩ = some (.string s)) ∧ Applied w c mc pb po cs t mo L ⟨0, n.data.toList, to.data.toList, s.data.toList, ln⟩ w') := by
    intro v1 w1 hm
    have hbx1 := hbx v1 w1 hm
    have hsz1 := hm.keep.size
    simp at hsz1
    refine (set_put h ⟨0, n.data.toList, to.data.toList, s.data.toList, ln⟩ n rfl v1 _ hm.is ?_ ((kb.mono (fun _ _ h => h.elim)).trans hm.keep) (fun y U hy hf => hm.beside y U (kb.bsl hy (fun _ _ h => h)) hf) (by rw [List.length_append, hsz]; omega) hn ?_).mono fun e w' ⟨he, hA, hc⟩ => ⟨he, ⟨(hc _ _ (Nat.le_refl _) (by omega)).trans hbx1.1, (hc _ _ (Nat.le_refl _) (by omega)).trans hbx1.2⟩, hA⟩
    · rcases hm.loc with e | ⟨g, e, hg⟩
      · exact .inl e
      · exact .inr ⟨g, e, by simp at hg; omega⟩
    · unfold doC; simp only [if_true]; rw [oldV_txts]
  generalize oldV L n.data.toList = ov at *
  obtain ⟨v0, T0⟩ := ov
  clear hrowb kb hlt hold holdl h hb hn hbx hsz
  generalize hwb : w.alloc (chO 0 n to s l) = wb at *
  unfold chO at hwb
  unfold chV
  go_enter Tryz.func69, Tryz.ntmps69
  go_wp2
  go_region
  clear hl1 hl2 k0 hwb
  go_wp2
  have HK2 : Hid (Keep (fun _ => False) wb wb.drew) := keep_drew _ _
  have HK3 : Hid (Keep (fun _ => False) wb wb.drew.drew) := (keep_drew _ wb).trans (keep_drew _ _)
  go_region_held3 (fun w' => w'.cell? ⟨w.heap.size, 1, none⟩ = some (.string n) ∧ w'.cell? ⟨w.heap.size, 3, none⟩ = some (.string s)) (first | exact ⟨b1, b3⟩ | exact MC.out _ _ (by assumption) | assumption | go_keep) (first | (refine step_more (w0 := wb) (by rfl) _ _ (by rfl) v0 T0 s (by rfl) (by first | exact HK2.out | exact HK3.out) (by rfl) (by rfl) HB.out HLN.out ?_; intro v1 w1 hm1) | (go_at_call 115; with_reducible (refine (SET.out _ _ ?_).mono ?_); with_reducible assumption; rintro e w2 ⟨rfl, hc, hA⟩))
  all_goals
    go_wp2
    go_end0
    exact ⟨rfl, hA⟩
end Go.Proofs.YtefbioainibmaaaGreatDoor
namespace Go.Proofs.YtefbioainibmaaaGreatDoor
open Go.RowKit Go.Maps
set_option linter.unusedVariables false

theorem applied_del {w w1 w2 : World} {c : Nat → Nat} {mc pb po : Nat} {cs : List Value} {t : TypeId} {mo : Option Nat} {L : List (Bs × FV)} (h : ApIn w c mc pb po cs t mo L) (ch : Chg) (hk1 : Keep (fun _ => False) w w1) (hb : tot (txts L) ≤ 4611686018427387904)
    (hr : RowIs w2 pb (cs.set (po + 1) (.int .i64 (wrap64 ((tot (txts L) : Nat) - lenV ((kget (vals L) ch.name).getD (.slice none 0 0)))))) t) (hm : MapV w2 mo (kdel (vals L) ch.name)) (hk : Keep (fun k => k = pb ∨ mo = some k) w1 w2) (hdo : doC (txts L) ch = kdel (txts L) ch.name) :
    Applied w c mc pb po cs t mo L ch w2 := by
  have hlen := bsl_len (h.fil.old ch.name)
  rw [oldV_vals, used_del h.fil.srt ch.name hlen hb] at hr
  have e : cs.set po (.map mo) = cs := by
    apply List.ext_getElem?
    intro i
    by_cases hi : po = i
    · subst hi; rw [List.getElem?_set_self (List.getElem?_eq_some_iff.1 h.h0).1, h.h0]
    · rw [List.getElem?_set_ne hi]
  have hK : Keep (fun k => k = pb ∨ mo = some k) w w2 := (hk1.mono (fun _ _ h => h.elim)).trans hk
  have hK3 : ∀ {y : Value} {U : Bs}, BSl w 0 y U → (∀ g, y.ownBlock = some g → c g = 3) → BSl w2 0 y U := fun hy hyc => hK.bsl hy (fun g e hS => by
    have h3 := hyc g e
    rcases hS with rfl | e2
    · exact h.pb3 h3
    · exact h.mc3 ((h.fil.mcol g e2).symm.trans h3))
  refine ⟨mo, kdel L ch.name, c, by rw [e]; exact hr, ⟨by rw [vals_del]; exact hm, h.fil.mcol, fun x hx => hK3 (h.fil.row x (mem_kdel.1 hx).1) (h.fil.col x (mem_kdel.1 hx).1), fun x hx => h.fil.col x (mem_kdel.1 hx).1, fun x hx y hy => h.fil.apart x (mem_kdel.1 hx).1 y (mem_kdel.1 hy).1, srt_kdel h.fil.srt _⟩,
    by rw [txts_del, hdo], fun _ _ => rfl, hK.mono (fun k _ e => e.imp id .inl), fun y U hy hyc hs => ⟨hK3 hy hyc, safe_del hs⟩, fun n hn _ => kget_del_other L (fun e => hn e.symm), fun x hx g e => .inr ⟨x, (mem_kdel.1 hx).1, e, .inl rfl⟩⟩

set_option maxRecDepth 100000 in
set_option maxHeartbeats 2000000 in
theorem apply_del (pb po : Nat) (cs : List Value) (t : TypeId) (mo : Option Nat) (L : List (Bs × FV)) (c : Nat → Nat) (mc : Nat) (n to s : ByteArray) (l : Int) (ln : Nat) (w : World) (h : ApIn w c mc pb po cs t mo L) (hn : n.size ≤ maxLen) (hb : tot (txts L) ≤ 140737488355328) :
    Calls Tryz.prog 69 #[.pointer (some ⟨pb, po, none⟩), chV 3 n to s l] w fun e w' => e = .returned (.tuple #[]) ∧ Applied w c mc pb po cs t mo L ⟨3, n.data.toList, to.data.toList, s.data.toList, ln⟩ w' := by
  have kb := keep_alloc (fun _ => False) w (chO 3 n to s l)
  have hrowb : RowIs (w.alloc (chO 3 n to s l)) pb cs t := h.row.keep kb (fun h => h)
  have k0 := hrowb.cellAt h.h0
  have hl1 := mapV_look (w := w.alloc (chO 3 n to s l)) (kb.mapV h.fil.map (fun _ _ h => h)) n hn
  have hl2 := mapV_look (w := (w.alloc (chO 3 n to s l)).drew) (kb.mapV h.fil.map (fun _ _ h => h)) n hn
  rw [oldV_vals] at hl1 hl2
  have b0 := ch_cell w 3 n to s l 0
  have b1 := ch_cell w 3 n to s l 1
  simp only [List.getElem?_toArray, List.getElem?_cons_zero, List.getElem?_cons_succ] at b0 b1
  have DR : Hid (Calls Tryz.prog 116 #[.pointer (some ⟨pb, po, none⟩), .string n] (w.alloc (chO 3 n to s l)).drew fun e w' => e = .returned (.tuple #[]) ∧ Applied w c mc pb po cs t mo L ⟨3, n.data.toList, to.data.toList, s.data.toList, ln⟩ w') := by
    have kd : Keep (fun _ => False) w (w.alloc (chO 3 n to s l)).drew := kb.trans (keep_drew _ _)
    exact (drop_any pb po cs t mo (tot (txts L) : Nat) (vals L) n _ (h.row.keep kd (fun h => h)) h.h0 h.h1 (kd.mapV h.fil.map (fun _ _ h => h)) h.ne h.fil.sl hn).mono fun e w' ⟨he, hr, hm, hk⟩ =>
      ⟨he, applied_del h _ kd (by omega) hr hm hk (by unfold doC; simp)⟩
  generalize oldV L n.data.toList = ov at *
  obtain ⟨v0, T0⟩ := ov
  clear hrowb kb h hb hn
  generalize hwb : w.alloc (chO 3 n to s l) = wb at *
  unfold chO at hwb
  unfold chV
  go_enter Tryz.func69, Tryz.ntmps69
  go_wp2
  go_region
  clear hl1 hl2 k0 hwb
  go_wp2_with fail
  refine DR.out.mono ?_
  rintro e w2 ⟨rfl, hA⟩
  clear DR
  go_wp2
  go_end0
  exact ⟨rfl, hA⟩

set_option maxRecDepth 100000 in
set_option maxHeartbeats 2000000 in
theorem apply_wr (pb po : Nat) (cs : List Value) (t : TypeId) (mo : Option Nat) (L : List (Bs × FV)) (c : Nat → Nat) (mc : Nat) (n to s : ByteArray) (l : Int) (ln : Nat) (w : World) (h : ApIn w c mc pb po cs t mo L) (hn : n.size ≤ maxLen) (hb : tot (txts L) + s.size ≤ 140737488355328) :
    Calls Tryz.prog 69 #[.pointer (some ⟨pb, po, none⟩), chV 1 n to s l] w fun e w' => e = .returned (.tuple #[]) ∧ Applied w c mc pb po cs t mo L ⟨1, n.data.toList, to.data.toList, s.data.toList, ln⟩ w' := by
  have hsz : s.data.toList.length = s.size := by simp
  have kb := keep_alloc (fun _ => False) w (chO 1 n to s l)
  have hrowb : RowIs (w.alloc (chO 1 n to s l)) pb cs t := h.row.keep kb (fun h => h)
  have k0 := hrowb.cellAt h.h0
  have hl1 := mapV_look (w := w.alloc (chO 1 n to s l)) (kb.mapV h.fil.map (fun _ _ h => h)) n hn
  have hl2 := mapV_look (w := (w.alloc (chO 1 n to s l)).drew) (kb.mapV h.fil.map (fun _ _ h => h)) n hn
  rw [oldV_vals] at hl1 hl2
  have b0 := ch_cell w 1 n to s l 0
  have b1 := ch_cell w 1 n to s l 1
  have b3 := ch_cell w 1 n to s l 3
  simp only [List.getElem?_toArray, List.getElem?_cons_zero, List.getElem?_cons_succ] at b0 b1 b3
  obtain ⟨v1, w1, hcv, hbr, hbel⟩ := brow_made (w.alloc (chO 1 n to s l)).drew s
  have SET : Hid (Calls Tryz.prog 115 #[.pointer (some ⟨pb, po, none⟩), .string n, v1] w1 fun e w' => e = .returned (.tuple #[]) ∧ Applied w c mc pb po cs t mo L ⟨1, n.data.toList, to.data.toList, s.data.toList, ln⟩ w') := by
    have kd : Keep (fun _ => False) w w1 := (kb.trans (keep_drew _ _)).trans (hbel.keep _)
    have hs1 : w.heap.size ≤ (w.alloc (chO 1 n to s l)).drew.heap.size := by show w.heap.size ≤ (w.heap.push _).size; simp
    have hgb : ∀ g, v1.ownBlock = some g → w.heap.size ≤ g := fun g e => by
      obtain ⟨g', cap, rfl, h1, _⟩ := hbr
      simp [Value.ownBlock] at e; omega
    have hv : BSl w1 0 v1 s.data.toList := by
      obtain ⟨g', cap, rfl, h1, r⟩ := hbr
      exact .inr ⟨g', cap, rfl, Nat.zero_le _, r⟩
    refine (set_put h ⟨1, n.data.toList, to.data.toList, s.data.toList, ln⟩ n rfl v1 _ hv ?_ (kd.mono (fun _ _ h => h.elim)) (fun y U hy hf => ⟨kd.bsl hy (fun _ _ h => h), ?_⟩) (by rw [hsz]; omega) hn ?_).mono fun e w' ⟨he, hA, hc⟩ => ⟨he, hA⟩
    · obtain ⟨g', cap, rfl, h1, _⟩ := hbr
      exact .inr ⟨g', rfl, by omega⟩
    · intro g n1 c1 n2 c2 e1 e2
      have h1 := hgb g (by rw [e1]; rfl)
      have h2 := bsl_block hy (g := g) (by rw [e2]; rfl)
      omega
    · unfold doC; simp
  generalize oldV L n.data.toList = ov at *
  obtain ⟨v0, T0⟩ := ov
  clear hrowb kb h hb hn hbr hbel hsz
  generalize hwb : w.alloc (chO 1 n to s l) = wb at *
  unfold chO at hwb
  unfold chV
  go_enter Tryz.func69, Tryz.ntmps69
  go_wp2
  go_region
  clear hl1 hl2 k0 hwb
  go_wp2_with fail
  refine SET.out.mono ?_
  rintro e w2 ⟨rfl, hA⟩
  clear SET
  go_wp2
  go_end0
  exact ⟨rfl, hA⟩
end Go.Proofs.YtefbioainibmaaaGreatDoor
namespace Go.Proofs.YtefbioainibmaaaGreatDoor
open Go.RowKit Go.Maps
set_option linter.unusedVariables false

/-- 'b[:k:k]' -/
theorem cut_run (w : World) (v : Value) (T : Bs) (k : Nat) (h : BSl w 0 v T) (hk : k ≤ T.length) : ∃ v', (∀ W : World, (Instr.slice 143 v none (some (.int .i64 (k : Int))) (some (.int .i64 (k : Int)))).run Tryz.prog W = .ok v' W) ∧ BSl w 0 v' (T.take k) ∧ v'.ownBlock = v.ownBlock ∧ ∀ y, Fits v' y := by
  obtain ⟨i0, hi, hz0, hz1, hz2⟩ := info_parts info8
  rcases h with ⟨rfl, rfl⟩ | ⟨g, cap, rfl, h1, h2, h3, h4, h5⟩
  · have hk0 : k = 0 := by simpa using hk
    subst hk0
    refine ⟨.slice none 0 0, fun W => ?_, .inl ⟨rfl, rfl⟩, rfl, fits_nil⟩
    simp [Instr.slice, Instr.sliceBounds, Instr.sliceBound, asIntOf, run_underlying Tryz.underlying143, sizeOf, typeInfo, hi, Result.andThen]
  · refine ⟨.slice (some ⟨g, 0, none⟩) k k, fun W => ?_, .inr ⟨g, k, by rw [List.length_take, Nat.min_eq_left hk], h1, h2, by rw [List.length_take, Nat.min_eq_left hk]; exact Nat.le_refl _, fun j hj => ?_, fun j hj => h5 j (by omega)⟩, rfl, fun y g' n1 c1 n2 c2 e1 _ hlt => ?_⟩
    · have e1 : (0 : Int) ≤ (k : Int) := by omega
      have e2 : k ≤ cap := by omega
      have e3 : (⟨g, 0, none⟩ : Addr).add 0 = ⟨g, 0, none⟩ := rfl
      simp [Instr.slice, Instr.sliceBounds, Instr.sliceBound, asIntOf, run_underlying Tryz.underlying143, sizeOf, typeInfo, hi, Result.andThen, e1, e2, e3]
    · rw [List.length_take] at hj
      rw [h4 j (by omega)]; simp
    · injection e1 with _ e3 e4; omega

set_option maxRecDepth 100000 in
set_option maxHeartbeats 2000000 in
theorem apply_cut (pb po : Nat) (cs : List Value) (t : TypeId) (mo : Option Nat) (L : List (Bs × FV)) (c : Nat → Nat) (mc : Nat) (n to s : ByteArray) (ln : Nat) (w : World) (h : ApIn w c mc pb po cs t mo L) (hn : n.size ≤ maxLen) (hb : tot (txts L) ≤ 140737488355328) (hln : ln ≤ (oldV L n.data.toList).2.length) :
    Calls Tryz.prog 69 #[.pointer (some ⟨pb, po, none⟩), chV 4 n to s ln] w fun e w' => e = .returned (.tuple #[]) ∧ Applied w c mc pb po cs t mo L ⟨4, n.data.toList, to.data.toList, s.data.toList, ln⟩ w' := by
  have hlt := h.row.lt
  have hold := h.fil.old n.data.toList
  have holdl : (oldV L n.data.toList).2.length ≤ tot (txts L) := by
    have := oldV_txts L n.data.toList
    cases hg : kget (txts L) n.data.toList with
    | none => rw [hg] at this; rw [← this]; simp
    | some b => rw [hg] at this; rw [← this]; exact tot_get hg
  have kb := keep_alloc (fun _ => False) w (chO 4 n to s ln)
  have hrowb : RowIs (w.alloc (chO 4 n to s ln)) pb cs t := h.row.keep kb (fun h => h)
  have k0 := hrowb.cellAt h.h0
  have hl1 := mapV_look (w := w.alloc (chO 4 n to s ln)) (kb.mapV h.fil.map (fun _ _ h => h)) n hn
  have hl2 := mapV_look (w := (w.alloc (chO 4 n to s ln)).drew) (kb.mapV h.fil.map (fun _ _ h => h)) n hn
  rw [oldV_vals] at hl1 hl2
  have b0 := ch_cell w 4 n to s ln 0
  have b1 := ch_cell w 4 n to s ln 1
  have b4 := ch_cell w 4 n to s ln 4
  simp only [List.getElem?_toArray, List.getElem?_cons_zero, List.getElem?_cons_succ] at b0 b1 b4
  obtain ⟨v1, hsl, hv1, hloc, hfit⟩ := cut_run w _ _ ln hold hln
  have SET : Hid (∀ W, Keep (fun _ => False) w W → w.heap.size < W.heap.size → W.cell? ⟨w.heap.size, 1, none⟩ = some (.string n) ∧ W.cell? ⟨w.heap.size, 4, none⟩ = some (.int .i64 ln) → Calls Tryz.prog 115 #[.pointer (some ⟨pb, po, none⟩), .string n, v1] W fun e w' => e = .returned (.tuple #[]) ∧ (w'.cell? ⟨w.heap.size, 1, none⟩ = some (.string n) ∧ w'.cell? ⟨w.heap.size, 4, none⟩ = some (.int .i64 ln)) ∧ Applied w c mc pb po cs t mo L ⟨4, n.data.toList, to.data.toList, s.data.toList, ln⟩ w') := by
    intro W hW hWs hWc
    refine (set_put h ⟨4, n.data.toList, to.data.toList, s.data.toList, ln⟩ n rfl v1 _ (hW.bsl hv1 (fun _ _ h => h)) (.inl hloc) (hW.mono (fun _ _ h => h.elim)) (fun y U hy hf => ⟨hW.bsl hy (fun _ _ h => h), hfit y⟩) (by rw [List.length_take]; omega) hn ?_).mono fun e w' ⟨he, hA, hc⟩ => ⟨he, ⟨(hc _ _ (Nat.le_refl _) hWs).trans hWc.1, (hc _ _ (Nat.le_refl _) hWs).trans hWc.2⟩, hA⟩
    unfold doC; simp; rw [oldV_txts]
  have HC1 : Hid ((w.alloc (chO 4 n to s ln)).drew.cell? ⟨w.heap.size, 1, none⟩ = some (.string n) ∧ (w.alloc (chO 4 n to s ln)).drew.cell? ⟨w.heap.size, 4, none⟩ = some (.int .i64 ln)) := ⟨b1, b4⟩
  have HC2 : Hid ((w.alloc (chO 4 n to s ln)).drew.drew.cell? ⟨w.heap.size, 1, none⟩ = some (.string n) ∧ (w.alloc (chO 4 n to s ln)).drew.drew.cell? ⟨w.heap.size, 4, none⟩ = some (.int .i64 ln)) := ⟨b1, b4⟩
  have HK1 : Hid (Keep (fun _ => False) w (w.alloc (chO 4 n to s ln)).drew ∧ w.heap.size < (w.alloc (chO 4 n to s ln)).drew.heap.size) := ⟨kb.trans (keep_drew _ _), by show _ < (w.heap.push _).size; simp⟩
  have HK2 : Hid (Keep (fun _ => False) w (w.alloc (chO 4 n to s ln)).drew.drew ∧ w.heap.size < (w.alloc (chO 4 n to s ln)).drew.drew.heap.size) := ⟨(kb.trans (keep_drew _ _)).trans (keep_drew _ _), by show _ < (w.heap.push _).size; simp⟩
  generalize oldV L n.data.toList = ov at *
  obtain ⟨v0, T0⟩ := ov
  clear hrowb kb h hb hn hlt hold holdl hv1 hloc hfit hln
  generalize hwb : w.alloc (chO 4 n to s ln) = wb at *
  unfold chO at hwb
  unfold chV
  go_enter Tryz.func69, Tryz.ntmps69
  go_wp2
  go_region
  clear hl1 hl2 k0 hwb
  go_wp2
  go_region_held3 (fun w' => w'.cell? ⟨w.heap.size, 1, none⟩ = some (.string n) ∧ w'.cell? ⟨w.heap.size, 4, none⟩ = some (.int .i64 ln)) (first | exact ⟨b1, b4⟩ | assumption | go_keep) (first | (go_at_call 115; with_reducible (refine (SET.out _ ?_ ?_ ?_).mono ?_); (first | exact HK1.out.1 | exact HK2.out.1); (first | exact HK1.out.2 | exact HK2.out.2); (first | exact HC1.out | exact HC2.out); rintro e w2 ⟨rfl, hc, hA⟩))
  all_goals
    go_wp2
    go_end0
    exact ⟨rfl, hA⟩

theorem set_ext (cs : List Value) (po : Nat) (a b c d : Value) : (((cs.set po a).set (po + 1) b).set po c).set (po + 1) d = (cs.set po c).set (po + 1) d := by
  apply List.ext_getElem?
  intro i
  simp only [List.getElem?_set, List.length_set]
  by_cases h1 : po = i
  · subst h1; simp
  · by_cases h2 : po + 1 = i <;> simp [h1, h2]
theorem set_set (cs : List Value) (po : Nat) (a b d : Value) : ((cs.set po a).set (po + 1) b).set (po + 1) d = (cs.set po a).set (po + 1) d := List.set_set ..

theorem applied_move {w w1 w2 w3 : World} {c : Nat → Nat} {mc pb po : Nat} {cs : List Value} {t : TypeId} {mo : Option Nat} {L : List (Bs × FV)} (h : ApIn w c mc pb po cs t mo L) (ch : Chg) (hne : ch.to ≠ ch.name) (hk1 : Keep (fun _ => False) w w1) (hb : tot (txts L) ≤ 140737488355328)
    (b : Nat) (hbm : mo = some b ∨ b = w1.heap.size) (hk : Keep (fun k => k = pb ∨ mo = some k) w1 w2)
    (hr3 : RowIs w3 pb (((cs.set po (.map (some b))).set (po + 1) (.int .i64 (wrap64 ((tot (txts L) : Nat) + wrap64 (lenV (oldV L ch.name).1 - lenV ((kget (vals L) ch.to).getD (.slice none 0 0))))))).set (po + 1) (.int .i64 (wrap64 (wrap64 ((tot (txts L) : Nat) + wrap64 (lenV (oldV L ch.name).1 - lenV ((kget (vals L) ch.to).getD (.slice none 0 0)))) - lenV ((kget (kput (vals L) ch.to (oldV L ch.name).1) ch.name).getD (.slice none 0 0)))))) t)
    (hm3 : MapV w3 (some b) (kdel (kput (vals L) ch.to (oldV L ch.name).1) ch.name)) (hk3 : Keep (fun k => k = pb ∨ some b = some k) w2 w3)
    (hdo : doC (txts L) ch = kdel (kput (txts L) ch.to (oldV L ch.name).2) ch.name) : Applied w c mc pb po cs t mo L ch w3 := by
  have hl1 := bsl_len (h.fil.old ch.name)
  have hl2 := bsl_len (h.fil.old ch.to)
  have hsz := hk1.size
  have hs2 := hk.size
  have holdl : ∀ n, (oldV L n).2.length ≤ tot (txts L) := fun n => by
    have := oldV_txts L n
    cases hg : kget (txts L) n with
    | none => rw [hg] at this; rw [← this]; simp
    | some b => rw [hg] at this; rw [← this]; exact tot_get hg
  have hL1 := holdl ch.name
  have hL2 := holdl ch.to
  rw [set_set, oldV_vals, kget_put_other _ _ hne, oldV_vals, hl1, hl2] at hr3
  have hT : wrap64 (wrap64 ((tot (txts L) : Nat) + wrap64 ((oldV L ch.name).2.length - (oldV L ch.to).2.length)) - (oldV L ch.name).2.length) = (tot (txts (kdel (kput L ch.to (oldV L ch.name)) ch.name)) : Nat) := by
    have h1 := tot_kput (srt_txts.2 h.fil.srt) ch.to (oldV L ch.name).2
    have h2 := tot_kdel (srt_kput (srt_txts.2 h.fil.srt) ch.to (oldV L ch.name).2) ch.name
    rw [oldV_txts] at h1
    rw [kget_put_other _ _ hne, oldV_txts] at h2
    rw [txts_del, txts_put]
    have e1 := IntWalk.wrap64_in (((oldV L ch.name).2.length : Int) - (oldV L ch.to).2.length) (by omega)
    have e2 := IntWalk.wrap64_in (((tot (txts L) : Nat) : Int) + (((oldV L ch.name).2.length : Int) - (oldV L ch.to).2.length)) (by omega)
    rw [e1, e2, IntWalk.wrap64_in _ (by omega)]
    omega
  rw [hT] at hr3
  have hcol : ∀ x ∈ kdel (kput L ch.to (oldV L ch.name)) ch.name, (∀ g, x.2.1.ownBlock = some g → c g = 3) ∧ BSl w 0 x.2.1 x.2.2 := by
    intro x hx
    rcases mem_kput.1 (mem_kdel.1 hx).1 with rfl | ⟨hx, _⟩
    · exact ⟨h.fil.oldcol ch.name, h.fil.old ch.name⟩
    · exact ⟨h.fil.col x hx, h.fil.row x hx⟩
  have hK : Keep (fun k => k = pb ∨ mo = some k) w w3 := (hk1.mono (fun _ _ h => h.elim)).then (hk.then hk3 (fun j hj e => by
    rcases e with e | e
    · exact .inl e
    · injection e with e
      rcases hbm with e2 | e2
      · exact .inr (by rw [e2, e])
      · omega)) (fun j _ e => e)
  have hK3 : ∀ {y : Value} {U : Bs}, BSl w 0 y U → (∀ g, y.ownBlock = some g → c g = 3) → BSl w3 0 y U := fun hy hyc => hK.bsl hy (fun g e hS => by
    have h3 := hyc g e
    rcases hS with rfl | e2
    · exact h.pb3 h3
    · exact h.mc3 ((h.fil.mcol g e2).symm.trans h3))
  refine ⟨some b, kdel (kput L ch.to (oldV L ch.name)) ch.name, fun k => if k < w.heap.size then c k else mc, hr3, ⟨by rw [vals_del, vals_put]; exact hm3, fun b' e => ?_, fun x hx => hK3 (hcol x hx).2 (hcol x hx).1, fun x hx g e => ?_, fun x hx y hy hxy g e => ?_, srt_kdel (srt_kput h.fil.srt _ _) _⟩,
    by rw [txts_del, txts_put, hdo], fun k hk => if_pos hk, hK.mono (fun k _ e => e.imp id .inl), fun y U hy hyc hs => ⟨hK3 hy hyc, safe_del (safe_put hs (safe_old hs ch.name))⟩, fun n hn hn2 => by rw [kget_del_other _ (fun e => hn e.symm), kget_put_other _ _ (fun e => hn2 e.symm)], fun x hx g e => ?_⟩
  · injection e with e
    subst e
    rcases hbm with e2 | e2
    · rw [if_pos (h.molt b e2)]; exact h.fil.mcol b e2
    · exact if_neg (by omega)
  · rw [if_pos (bsl_block (hcol x hx).2 e)]; exact (hcol x hx).1 g e
  · have hx1 := mem_kdel.1 hx
    have hy1 := mem_kdel.1 hy
    rcases mem_kput.1 hx1.1 with rfl | ⟨hx2, hx3⟩
    · rcases mem_kput.1 hy1.1 with rfl | ⟨hy2, hy3⟩
      · exact absurd rfl hxy
      · exact h.fil.oldapart ch.name y hy2 hy1.2 g e
    · rcases mem_kput.1 hy1.1 with rfl | ⟨hy2, hy3⟩
      · intro e2; exact h.fil.oldapart ch.name x hx2 hx1.2 g e2 e
      · exact h.fil.apart x hx2 y hy2 hxy g e
  · rcases mem_kput.1 (mem_kdel.1 hx).1 with rfl | ⟨hx2, _⟩
    · obtain ⟨x0, h3, h4, h5⟩ := old_mem e
      exact .inr ⟨x0, h3, h4, .inr h5⟩
    · exact .inr ⟨x, hx2, e, .inl rfl⟩

set_option maxRecDepth 100000 in
set_option maxHeartbeats 2000000 in
theorem apply_mv (pb po : Nat) (cs : List Value) (t : TypeId) (mo : Option Nat) (L : List (Bs × FV)) (c : Nat → Nat) (mc : Nat) (n to s : ByteArray) (l : Int) (ln : Nat) (w : World) (h : ApIn w c mc pb po cs t mo L) (hn : n.size ≤ maxLen) (ht : to.size ≤ maxLen) (hne : to.data.toList ≠ n.data.toList) (hb : tot (txts L) ≤ 140737488355328) (hlen : L.length + 1 < maxLen) :
    Calls Tryz.prog 69 #[.pointer (some ⟨pb, po, none⟩), chV 2 n to s l] w fun e w' => e = .returned (.tuple #[]) ∧ Applied w c mc pb po cs t mo L ⟨2, n.data.toList, to.data.toList, s.data.toList, ln⟩ w' := by
  have kb := keep_alloc (fun _ => False) w (chO 2 n to s l)
  have hrowb : RowIs (w.alloc (chO 2 n to s l)) pb cs t := h.row.keep kb (fun h => h)
  have k0 := hrowb.cellAt h.h0
  have hl1 := mapV_look (w := w.alloc (chO 2 n to s l)) (kb.mapV h.fil.map (fun _ _ h => h)) n hn
  have hl2 := mapV_look (w := (w.alloc (chO 2 n to s l)).drew) (kb.mapV h.fil.map (fun _ _ h => h)) n hn
  rw [oldV_vals] at hl1 hl2
  have b0 := ch_cell w 2 n to s l 0
  have b1 := ch_cell w 2 n to s l 1
  have b2 := ch_cell w 2 n to s l 2
  simp only [List.getElem?_toArray, List.getElem?_cons_zero, List.getElem?_cons_succ] at b0 b1 b2
  have hsl := bsl_isSl (h.fil.old n.data.toList)
  have kd : Keep (fun _ => False) w (w.alloc (chO 2 n to s l)).drew := kb.trans (keep_drew _ _)
  have hbs : w.heap.size < (w.alloc (chO 2 n to s l)).drew.heap.size := by show _ < (w.heap.push _).size; simp
  have SET : Hid (Calls Tryz.prog 115 #[.pointer (some ⟨pb, po, none⟩), .string to, (oldV L n.data.toList).1] (w.alloc (chO 2 n to s l)).drew fun e w1 => e = .returned (.tuple #[]) ∧ w1.cell? ⟨w.heap.size, 1, none⟩ = some (.string n) ∧ SetPost pb po cs t mo (tot (txts L) : Nat) (vals L) to.data.toList (oldV L n.data.toList).1 (w.alloc (chO 2 n to s l)).drew w1) := by
    refine (set_sl pb po cs t mo (tot (txts L) : Nat) (vals L) to _ _ hsl (h.row.keep kd (fun h => h)) h.h0 h.h1 (kd.mapV h.fil.map (fun _ _ h => h)) h.ne h.fil.sl ht (by simpa [vals] using h.len)).mono fun e w1 ⟨he, hp⟩ => ⟨he, ?_, hp⟩
    obtain ⟨b, _, _, _, _, hk⟩ := hp
    refine (hk.cell hbs ?_).trans b1
    rintro (e | e)
    · have := h.row.lt; omega
    · have := h.molt _ e; omega
  have DR : Hid (∀ w1, SetPost pb po cs t mo (tot (txts L) : Nat) (vals L) to.data.toList (oldV L n.data.toList).1 (w.alloc (chO 2 n to s l)).drew w1 → Calls Tryz.prog 116 #[.pointer (some ⟨pb, po, none⟩), .string n] w1 fun e w' => e = .returned (.tuple #[]) ∧ Applied w c mc pb po cs t mo L ⟨2, n.data.toList, to.data.toList, s.data.toList, ln⟩ w') := by
    intro w1 ⟨b, hbm, hbp, hr, hm, hk⟩
    have hpo : po < cs.length := (List.getElem?_eq_some_iff.1 h.h0).1
    have hpo1 : po + 1 < cs.length := (List.getElem?_eq_some_iff.1 h.h1).1
    refine (drop_any pb po _ t (some b) _ (kput (vals L) to.data.toList (oldV L n.data.toList).1) n w1 hr (by rw [List.getElem?_set_ne (by omega), List.getElem?_set_self hpo]) (by rw [List.getElem?_set_self (by simpa using hpo1)]) (.inr ⟨b, rfl, hm⟩) (fun b' e => by injection e with e; omega) (fun x hx => ?_) hn).mono fun e w' ⟨he, hr3, hm3, hk3⟩ =>
      ⟨he, applied_move h ⟨2, n.data.toList, to.data.toList, s.data.toList, ln⟩ hne kd hb b hbm hk hr3 hm3 hk3 (by unfold doC; simp; rw [oldV_txts])⟩
    rcases mem_kput.1 hx with rfl | ⟨hx, _⟩
    · exact hsl
    · exact h.fil.sl x hx
  generalize oldV L n.data.toList = ov at *
  obtain ⟨v0, T0⟩ := ov
  clear hrowb kb h hb hn hsl kd hbs ht hne hlen
  generalize hwb : w.alloc (chO 2 n to s l) = wb at *
  unfold chO at hwb
  unfold chV
  go_enter Tryz.func69, Tryz.ntmps69
  go_wp2
  go_region
  clear hl1 hl2 k0 hwb
  go_wp2_with fail
  refine SET.out.mono ?_
  rintro e w1 ⟨rfl, c1, hp⟩
  have HP := show Hid _ from hp
  clear SET hp
  go_wp2_with fail
  refine (DR.out _ HP.out).mono ?_
  rintro e w2 ⟨rfl, hA⟩
  clear DR HP
  go_wp2
  go_end0
  exact ⟨rfl, hA⟩
end Go.Proofs.YtefbioainibmaaaGreatDoor
namespace Go.Proofs.YtefbioainibmaaaGreatDoor
open Go.RowKit Go.Maps
set_option linter.unusedVariables false

/-- a change's value -/
def cv (ch : Chg) : Value := chV ch.kind ⟨ch.name.toArray⟩ ⟨ch.to.toArray⟩ ⟨ch.s.toArray⟩ ch.long
/-- a change that may be done -/
structure ChOk (A : List (Bs × Bs)) (ch : Chg) : Prop where
  kind : ch.kind ≤ 4
  name : ch.name.length ≤ maxLen
  to : ch.to.length ≤ maxLen
  move : ch.kind = 2 → ch.to ≠ ch.name
  cut : ch.kind = 4 → ch.long ≤ ((kget A ch.name).getD []).length
theorem size_mk (l : Bs) : (ByteArray.mk l.toArray).size = l.length := by show l.toArray.size = _; simp

theorem apply_any (pb po : Nat) (cs : List Value) (t : TypeId) (mo : Option Nat) (L : List (Bs × FV)) (c : Nat → Nat) (mc : Nat) (ch : Chg) (w : World) (h : ApIn w c mc pb po cs t mo L) (hc : ChOk (txts L) ch) (hb : tot (txts L) + ch.s.length ≤ 140737488355328) (hlen : L.length + 1 < maxLen) :
    Calls Tryz.prog 69 #[.pointer (some ⟨pb, po, none⟩), cv ch] w fun e w' => e = .returned (.tuple #[]) ∧ Applied w c mc pb po cs t mo L ch w' := by
  obtain ⟨kind, name, to, s, long⟩ := ch
  have e1 : ∀ l : Bs, (ByteArray.mk l.toArray).data.toList = l := fun l => by simp
  have h1 := hc.kind
  have h2 := hc.name
  have h3 := hc.to
  have h4 := hc.move
  have h5 := hc.cut
  simp only at h1 h2 h3 h4 h5 hb
  unfold cv
  simp only
  match kind, h1, h4, h5 with
  | 0, _, _, _ =>
    have := apply_app pb po cs t mo L c mc ⟨name.toArray⟩ ⟨to.toArray⟩ ⟨s.toArray⟩ long long w h (by rw [size_mk]; exact h2) (by rw [size_mk]; exact hb)
    rw [e1, e1, e1] at this; exact this
  | 1, _, _, _ =>
    have := apply_wr pb po cs t mo L c mc ⟨name.toArray⟩ ⟨to.toArray⟩ ⟨s.toArray⟩ long long w h (by rw [size_mk]; exact h2) (by rw [size_mk]; exact hb)
    rw [e1, e1, e1] at this; exact this
  | 2, _, h4, _ =>
    have := apply_mv pb po cs t mo L c mc ⟨name.toArray⟩ ⟨to.toArray⟩ ⟨s.toArray⟩ long long w h (by rw [size_mk]; exact h2) (by rw [size_mk]; exact h3) (by rw [e1, e1]; exact h4 rfl) (by omega) hlen
    rw [e1, e1, e1] at this; exact this
  | 3, _, _, _ =>
    have := apply_del pb po cs t mo L c mc ⟨name.toArray⟩ ⟨to.toArray⟩ ⟨s.toArray⟩ long long w h (by rw [size_mk]; exact h2) (by omega)
    rw [e1, e1, e1] at this; exact this
  | 4, _, _, h5 =>
    have := apply_cut pb po cs t mo L c mc ⟨name.toArray⟩ ⟨to.toArray⟩ ⟨s.toArray⟩ long w h (by rw [size_mk]; exact h2) (by omega) (by rw [e1]; have := h5 rfl; rw [oldV_txts] at this; exact this)
    rw [e1, e1, e1] at this; exact this
  | k + 5, hk, _, _ => omega

/-- what is left where files came to be A' -/
def AppliedTo (w : World) (c : Nat → Nat) (mc pb po : Nat) (cs : List Value) (t : TypeId) (A' : List (Bs × Bs)) (w' : World) : Prop :=
  ∃ mo' L' c', RowIs w' pb ((cs.set po (.map mo')).set (po + 1) (.int .i64 (tot A'))) t ∧ FilIs w' c' mc mo' L' ∧ txts L' = A' ∧ (∀ k, k < w.heap.size → c' k = c k) ∧ Keep (fun k => k = pb ∨ c k = mc ∨ c k = 3) w w'
theorem Applied.less {w w' : World} {c : Nat → Nat} {mc pb po : Nat} {cs : List Value} {t : TypeId} {mo : Option Nat} {L : List (Bs × FV)} {ch : Chg} (hm : ∀ b, mo = some b → c b = mc) (h : Applied w c mc pb po cs t mo L ch w') : AppliedTo w c mc pb po cs t (doC (txts L) ch) w' := by
  obtain ⟨mo', L', c', hr, hf, ht, hc, hk, _, _, _⟩ := h
  exact ⟨mo', L', c', by rw [← ht]; exact hr, hf, ht, hc, hk.mono fun k _ e => e.imp id (fun e => e.imp (hm k) id)⟩
theorem set_same {cs : List Value} {po : Nat} {v : Value} (h : cs[po]? = some v) : cs.set po v = cs := by
  apply List.ext_getElem?
  intro i
  by_cases hi : po = i
  · subst hi; rw [List.getElem?_set_self (List.getElem?_eq_some_iff.1 h).1, h]
  · rw [List.getElem?_set_ne hi]
theorem ApIn.none {w w' : World} {c : Nat → Nat} {mc pb po : Nat} {cs : List Value} {t : TypeId} {mo : Option Nat} {L : List (Bs × FV)} (h : ApIn w c mc pb po cs t mo L) (k : Keep (fun _ => False) w w') : AppliedTo w c mc pb po cs t (txts L) w' :=
  ⟨mo, L, c, by rw [set_same h.h0, set_same h.h1]; exact h.row.keep k (fun h => h), h.fil.keep k (fun _ _ => rfl) (fun _ h => h.elim), rfl, fun _ _ => rfl, k.mono fun _ _ h => h.elim⟩
theorem ApIn.keepF {w w' : World} {c : Nat → Nat} {mc pb po : Nat} {cs : List Value} {t : TypeId} {mo : Option Nat} {L : List (Bs × FV)} (h : ApIn w c mc pb po cs t mo L) (k : Keep (fun _ => False) w w') : ApIn w' c mc pb po cs t mo L :=
  ⟨h.row.keep k (fun h => h), h.h0, h.h1, h.fil.keep k (fun _ _ => rfl) (fun _ h => h.elim), h.mc3, h.pb3, h.pbm, h.len⟩
theorem AppliedTo.from {w w1 w' : World} {c : Nat → Nat} {mc pb po : Nat} {cs : List Value} {t : TypeId} {A' : List (Bs × Bs)} (k : Keep (fun _ => False) w w1) (h : AppliedTo w1 c mc pb po cs t A' w') : AppliedTo w c mc pb po cs t A' w' := by
  obtain ⟨mo', L', c', hr, hf, ht, hc, hk⟩ := h
  exact ⟨mo', L', c', hr, hf, ht, fun j hj => hc j (Nat.lt_of_lt_of_le hj k.size), (k.mono fun _ _ h => h.elim).trans hk⟩

/-- files behind the first bytes of a change -/
def tearC (A : List (Bs × Bs)) (ch : Chg) (torn : Int) : List (Bs × Bs) := if torn ≤ 0 ∨ 1 < ch.kind then A else doC A { ch with s := ch.s.take torn.toNat }
theorem extract_mk (l : Bs) (k : Nat) : (ByteArray.mk l.toArray).extract 0 k = ⟨(l.take k).toArray⟩ := by
  apply ByteArray.ext
  simp

set_option maxRecDepth 100000 in
set_option maxHeartbeats 2000000 in
theorem tear_any (pb po : Nat) (cs : List Value) (t : TypeId) (mo : Option Nat) (L : List (Bs × FV)) (c : Nat → Nat) (mc : Nat) (ch : Chg) (torn : Int) (w : World) (h : ApIn w c mc pb po cs t mo L) (hc : ChOk (txts L) ch) (hb : tot (txts L) + ch.s.length ≤ 140737488355328) (hlen : L.length + 1 < maxLen) :
    Calls Tryz.prog 70 #[.pointer (some ⟨pb, po, none⟩), cv ch, .int .i64 torn] w fun e w' => e = .returned (.tuple #[]) ∧ AppliedTo w c mc pb po cs t (tearC (txts L) ch torn) w' := by
  obtain ⟨kind, name, to, s, long⟩ := ch
  have kb := keep_alloc (fun _ => False) w (chO kind ⟨name.toArray⟩ ⟨to.toArray⟩ ⟨s.toArray⟩ long)
  have b0 := ch_cell w kind ⟨name.toArray⟩ ⟨to.toArray⟩ ⟨s.toArray⟩ long 0
  have b3 := ch_cell w kind ⟨name.toArray⟩ ⟨to.toArray⟩ ⟨s.toArray⟩ long 3
  simp only [List.getElem?_toArray, List.getElem?_cons_zero, List.getElem?_cons_succ] at b0 b3
  by_cases h1 : torn ≤ 0
  · have HA : Hid (AppliedTo w c mc pb po cs t (tearC (txts L) ⟨kind, name, to, s, long⟩ torn) (w.alloc (chO kind ⟨name.toArray⟩ ⟨to.toArray⟩ ⟨s.toArray⟩ long))) := by
      show AppliedTo _ _ _ _ _ _ _ _ _
      rw [show tearC (txts L) ⟨kind, name, to, s, long⟩ torn = txts L from by unfold tearC; simp [h1]]
      exact h.none kb
    generalize tearC (txts L) ⟨kind, name, to, s, long⟩ torn = A' at HA ⊢
    clear h hc hb hlen kb
    unfold cv
    simp only
    generalize hwb : w.alloc (chO kind ⟨name.toArray⟩ ⟨to.toArray⟩ ⟨s.toArray⟩ long) = wb at *
    unfold chO at hwb
    unfold chV
    go_enter Tryz.func70, Tryz.ntmps70
    go_wp2
    (try simp only [Exit.inBlock, Exit.then]); refine bodyPost_ret (results_none rfl _ _ _) rfl ?_
    exact ⟨rfl, HA.out⟩
  · have h1' : ¬ torn ≤ 0 := h1
    by_cases hk : 1 < kind
    · have HA : Hid (AppliedTo w c mc pb po cs t (tearC (txts L) ⟨kind, name, to, s, long⟩ torn) (w.alloc (chO kind ⟨name.toArray⟩ ⟨to.toArray⟩ ⟨s.toArray⟩ long))) := by
        show AppliedTo _ _ _ _ _ _ _ _ _
        rw [show tearC (txts L) ⟨kind, name, to, s, long⟩ torn = txts L from by unfold tearC; simp [hk]]
        exact h.none kb
      generalize tearC (txts L) ⟨kind, name, to, s, long⟩ torn = A' at HA ⊢
      have hd : decide (torn ≤ 0) = false := decide_eq_false h1
      have e0 : ((kind : Int) != 0) = true := by rw [bne_iff_ne]; omega
      have e1 : ((kind : Int) != 1) = true := by rw [bne_iff_ne]; omega
      clear h hc hb hlen kb hk
      unfold cv
      simp only
      generalize hwb : w.alloc (chO kind ⟨name.toArray⟩ ⟨to.toArray⟩ ⟨s.toArray⟩ long) = wb at *
      unfold chO at hwb
      unfold chV
      generalize (kind : Int) = ki at *
      go_enter Tryz.func70, Tryz.ntmps70
      go_wp2
      (try simp only [Exit.inBlock, Exit.then]); refine bodyPost_ret (results_none rfl _ _ _) rfl ?_
      exact ⟨rfl, HA.out⟩
    · have hk01 : kind = 0 ∨ kind = 1 := by omega
      have hm : min torn.toNat s.length ≤ s.length := Nat.min_le_right _ _
      have hst : s.take (min torn.toNat s.length) = s.take torn.toNat := by
        by_cases hle : torn.toNat ≤ s.length
        · rw [Nat.min_eq_left hle]
        · rw [Nat.min_eq_right (by omega), List.take_of_length_le (Nat.le_refl _), List.take_of_length_le (by omega)]
      have hmi : (min torn (s.length : Int)) = ((min torn.toNat s.length : Nat) : Int) := by omega
      have hmx := extract_mk s (min torn.toNat s.length)
      rw [hst] at hmx
      have HT : Hid (tearC (txts L) ⟨kind, name, to, s, long⟩ torn = doC (txts L) ⟨kind, name, to, s.take torn.toNat, long⟩) := by
        show _ = _
        unfold tearC
        rw [if_neg (by simp only; omega)]
      have hmin : (if ((ByteArray.mk s.toArray).size : Int) < torn then ((ByteArray.mk s.toArray).size : Int) else torn) = ((min torn.toNat s.length : Nat) : Int) := by
        rw [size_mk]; split <;> omega
      have hms : ((min torn.toNat s.length : Nat) : Int) ≤ ((ByteArray.mk s.toArray).size : Int) := by rw [size_mk]; omega
      have b1 := ch_cell w kind ⟨name.toArray⟩ ⟨to.toArray⟩ ⟨s.toArray⟩ long 1
      have b2 := ch_cell w kind ⟨name.toArray⟩ ⟨to.toArray⟩ ⟨s.toArray⟩ long 2
      have b4 := ch_cell w kind ⟨name.toArray⟩ ⟨to.toArray⟩ ⟨s.toArray⟩ long 4
      have f3 : (w.alloc (chO kind ⟨name.toArray⟩ ⟨to.toArray⟩ ⟨s.toArray⟩ long)).frozen? ⟨w.heap.size, 3, none⟩ = false := by unfold World.frozen?; rw [show (w.alloc (chO kind ⟨name.toArray⟩ ⟨to.toArray⟩ ⟨s.toArray⟩ long)).heap[w.heap.size]? = some _ from heap_alloc_new _ _]; simp [chO]
      simp only [List.getElem?_toArray, List.getElem?_cons_zero, List.getElem?_cons_succ] at b1 b2 b4
      have hc2 : ChOk (txts L) ⟨kind, name, to, s.take torn.toNat, long⟩ := ⟨hc.kind, hc.name, hc.to, hc.move, hc.cut⟩
      have AP : Hid (∀ W, Keep (fun _ => False) w W → Calls Tryz.prog 69 #[.pointer (some ⟨pb, po, none⟩), cv ⟨kind, name, to, s.take torn.toNat, long⟩] W fun e w' => e = .returned (.tuple #[]) ∧ AppliedTo w c mc pb po cs t (doC (txts L) ⟨kind, name, to, s.take torn.toNat, long⟩) w') := by
        intro W hW
        refine (apply_any pb po cs t mo L c mc _ W (h.keepF hW) hc2 ?_ hlen).mono fun e w' ⟨he, hA⟩ => ⟨he, (hA.less (h.fil.mcol)).from hW⟩
        simp only [List.length_take]
        simp only at hb
        omega
      have HKs : Hid (∀ v, Keep (fun _ => False) w ((w.alloc (chO kind ⟨name.toArray⟩ ⟨to.toArray⟩ ⟨s.toArray⟩ long)).setCell ⟨w.heap.size, 3, none⟩ v)) := fun v => kb.then (keep_setCell _ _ _ v) (fun j hj e => by omega)
      rw [HT.out]
      generalize doC (txts L) ⟨kind, name, to, s.take torn.toNat, long⟩ = A' at AP ⊢
      have hd : decide (torn ≤ 0) = false := decide_eq_false h1
      have hmx := extract_mk s (min torn.toNat s.length)
      rw [hst] at hmx
      unfold cv chV at AP
      simp only at AP
      unfold cv chV
      simp only
      clear HT h hc hc2 hb hlen kb hk hst hmi hm
      generalize hwb : w.alloc (chO kind ⟨name.toArray⟩ ⟨to.toArray⟩ ⟨s.toArray⟩ long) = wb at *
      unfold chO at hwb
      generalize ByteArray.mk name.toArray = bn at *
      generalize ByteArray.mk to.toArray = bt at *
      generalize ByteArray.mk s.toArray = bs0 at *
      generalize ByteArray.mk (s.take torn.toNat).toArray = bs1 at *
      generalize min torn.toNat s.length = m at *
      clear hwb
      rcases hk01 with rfl | rfl
      all_goals
        go_enter Tryz.func70, Tryz.ntmps70
        go_wp2_with fail
        refine (AP.out _ (keep_alloc _ _ _)).mono ?_
        rintro e w2 ⟨rfl, hA⟩
        clear AP HKs
        go_wp2
        go_end0
        exact ⟨rfl, hA⟩
end Go.Proofs.YtefbioainibmaaaGreatDoor
namespace Go.Proofs.YtefbioainibmaaaGreatDoor
open Go.RowKit Go.Maps
set_option linter.unusedVariables false
set_option linter.unusedSimpArgs false

theorem ret_int {a b : Int} (h : a = b) : Ending.returned (.int .i64 a) = .returned (.int .i64 b) := by rw [h]
/-- a disk that is nil, or one whose mark says whether it is down -/
def DownIs (w : World) (dp : Value) (dn : Bool) : Prop := (dp = .pointer none ∧ dn = true) ∨ ∃ p, dp = .pointer (some ⟨p, 0, none⟩) ∧ w.cell? ⟨p, 9, none⟩ = some (.bool dn)

set_option maxRecDepth 100000 in
theorem down_any (dp : Value) (dn : Bool) (w : World) (h : DownIs w dp dn) : Calls Tryz.prog 19 #[dp] w fun e w' => e = .returned (.bool dn) ∧ w' = w := by
  rcases h with ⟨rfl, rfl⟩ | ⟨p, rfl, h⟩
  · go_enter Tryz.func19, Tryz.ntmps19
    go_wp2
    go_ret
    exact ⟨rfl, rfl⟩
  · go_enter Tryz.func19, Tryz.ntmps19
    go_wp2
    go_ret
    exact ⟨rfl, rfl⟩

/-- why nothing can be done -/
def refN (dn : Bool) (ns : List ByteArray) : Int := if dn then 21 else if ns.all (fun n => nameOk n.data.toList) then 0 else 20

set_option maxRecDepth 100000 in
set_option maxHeartbeats 1000000 in
theorem refuses_any (dp : Value) (dn : Bool) (g : Nat) (ns : List ByteArray) (w : World) (h : DownIs w dp dn) (hlen : ns.length ≤ 4611686018427387904) (hc : ∀ j (hj : j < ns.length), w.cell? ⟨g, j, none⟩ = some (.string ns[j])) :
    Calls Tryz.prog 84 #[dp, .slice (some ⟨g, 0, none⟩) ns.length ns.length] w fun e w' => e = .returned (.int .i64 (refN dn ns)) ∧ w' = w := by
  have HD := hid <| down_any dp dn w h
  have HC := hid <| hc
  clear h hc
  cases dn with
  | true =>
    unfold refN
    simp only [if_true]
    go_enter Tryz.func84, Tryz.ntmps84
    go_wp2_with fail
    refine HD.out.mono ?_
    rintro e w1 ⟨rfl, rfl⟩
    go_wp2
    go_ret
    exact ⟨rfl, rfl⟩
  | false =>
    have HS0 : Hid ((ns.take 0).all (fun n => nameOk n.data.toList) = true) := rfl
    have HR1 : Hid (ns.all (fun n => nameOk n.data.toList) = true → 0 = refN false ns) := by intro h; unfold refN; simp [h]
    have HR2 : Hid (ns.all (fun n => nameOk n.data.toList) = false → 20 = refN false ns) := by intro h; unfold refN; simp [h]
    generalize refN false ns = R at HR1 HR2 ⊢
    go_enter Tryz.func84, Tryz.ntmps84
    go_wp2_with fail
    refine HD.out.mono ?_
    rintro e w1 ⟨rfl, rfl⟩
    clear HD
    go_wp2
    go_loopw [11] (fun i wr => ∃ k : Nat, k ≤ ns.length ∧ i = .int .i64 k ∧ wr = w1 ∧ Hid ((ns.take k).all (fun n => nameOk n.data.toList) = true)) (fun i _ => ns.length - (intOf i).toNat)
    case atStart => exact ⟨0, by omega, rfl, rfl, HS0⟩
    case round =>
      clear HS0
      obtain ⟨k, hk, rfl, hwr, HA⟩ := hrel
      subst hwr
      by_cases hlt : k < ns.length
      · have hk0 : (0 : Int) ≤ (k : Int) := by omega
        have hk1 : (k : Int) < (ns.length : Int) := by omega
        have hcell := HC.out k hlt
        have HN := hid <| name_any ns[k] wr
        have HT : Hid ((ns.take (k + 1)).all (fun n => nameOk n.data.toList) = nameOk (ns[k]).data.toList) := by
          show _ = _
          rw [List.take_succ_eq_append_getElem hlt, List.all_append, HA.out]
          simp
        have HF : Hid (nameOk (ns[k]).data.toList = false → ns.all (fun n => nameOk n.data.toList) = false) := by
          intro hf
          rw [List.all_eq_false]
          exact ⟨ns[k], List.getElem_mem _, by rw [hf]; simp⟩
        generalize ns[k] = n at hcell HN HT HF
        cases hi : nameOk n.data.toList with
        | true =>
          have HN2 : Hid (Calls Tryz.prog 125 #[.string n] wr fun e w' => e = .returned (.bool true) ∧ w' = wr) := by have := HN.out; rw [hi] at this; exact this
          rw [hi] at HT
          clear hi HF HA HN
          go_wp2_with fail
          refine HN2.out.mono ?_
          rintro e w1 ⟨rfl, rfl⟩
          go_wp2
          exact ⟨⟨k + 1, by omega, by go_num, by trivial, HT⟩, by simp [intOf]; omega⟩
        | false =>
          have HN2 : Hid (Calls Tryz.prog 125 #[.string n] wr fun e w' => e = .returned (.bool false) ∧ w' = wr) := by have := HN.out; rw [hi] at this; exact this
          have HF2 : Hid (20 = R) := HR2.out (HF.out hi)
          clear hi HF HA HN HT HR1 HR2
          go_wp2_with fail
          refine HN2.out.mono ?_
          rintro e w1 ⟨rfl, rfl⟩
          go_wp2
          go_ret
          exact ⟨ret_int HF2.out, rfl⟩
      · have hd : decide ((k : Int) < (ns.length : Int)) = false := decide_eq_false (by omega)
        have HE : Hid (0 = R) := by
          have := HA.out
          rw [List.take_of_length_le (by omega)] at this
          exact HR1.out this
        clear HA HR1 HR2
        go_wp2
        go_ret
        exact ⟨ret_int HE.out, rfl⟩
end Go.Proofs.YtefbioainibmaaaGreatDoor
