/- The walk of a change's being done to files. -/
import Derived.Test.YtnlodlpjokkepabFil
import Derived.Deep.RegionHeld3
import Derived.IntWalk
namespace Go.Proofs.Ytnlodlpjokkepab
open Go.RowKit Go.Maps
set_option linter.unusedVariables false

/-- what 'append' leaves -/
structure More (w : World) (v : Value) (T s : Bs) (v' : Value) (w' : World) : Prop where
  is : BSl w' 0 v' (T ++ s)
  loc : v'.ownBlock = v.ownBlock ∨ ∃ g, v'.ownBlock = some g ∧ w.heap.size ≤ g
  keep : Keep (fun k => v.ownBlock = some k) w w'
  beside : ∀ y U, BSl w 0 y U → Fits v y → BSl w' 0 y U ∧ Fits v' y

theorem bsl_heap {w w' : World} (h : w'.heap = w.heap) {v : Value} {T : Bs} (hb : BSl w 0 v T) : BSl w' 0 v T := by
  rcases hb with h0 | ⟨g, cap, hv, c1, c2, c3, c4, c5⟩
  · exact .inl h0
  · exact .inr ⟨g, cap, hv, c1, by rw [h]; exact c2, c3, fun j hj => by rw [show w'.cell? ⟨g, j, none⟩ = w.cell? ⟨g, j, none⟩ by simp [World.cell?, h]]; exact c4 j hj, fun j hj => by rw [show w'.cell? ⟨g, j, none⟩ = w.cell? ⟨g, j, none⟩ by simp [World.cell?, h], show w'.frozen? ⟨g, j, none⟩ = w.frozen? ⟨g, j, none⟩ by simp [World.frozen?, h]]; exact c5 j hj⟩

/-- 'append(b, s...)' as one step of a region that draws -/
theorem step_more {w w0 : World} {ops : Array Oper} {o : Oper} {a : Act} {K : Act → World → Prop} {Q : Exit → Act → World → Prop} {E : Prop} (hgd : o.guard = none) (sl x : Operand)
    (ho : o.op = .call { callee := .builtin .append, args := #[sl, x], argTypes := #[94, 9] }) (v : Value) (T : Bs) (s : ByteArray) (hw : w.heap = w0.heap) (hK : Keep (fun _ => False) w0 w) (hs : a.eval sl = v) (hx : a.eval x = .string s)
    (h0 : BSl w0 0 v T) (hl : T.length + s.size ≤ 140737488355328)
    (h : ∀ v' w', More w0 v T s.data.toList v' w' → K (a.put o.dst v') w') : if Region.wanted o (yielded ops a.tmps) = true then Oper.wp Try.prog o a w K Q else E := by
  have hwn : Region.wanted o (yielded ops a.tmps) = true := by simp [Region.wanted, hgd]
  rw [if_pos hwn]
  obtain ⟨v', w', hr, h2, h3, h4, h5⟩ := bsl_more w v T s o.type (bsl_heap hw h0) hl
  unfold Oper.wp execOp
  simp only [ho, resolve, invoke, builtin, Sem.run_bind, Sem.run_pure, Result.andThen_ok, List.map_toArray, List.map_cons, List.map_nil, hs, hx, hr, Oper.upon]
  exact h v' w' ⟨h2, h3.imp id (fun e => ⟨_, e, by rw [hw]; exact Nat.le_refl _⟩), (hK.mono (fun _ _ h => h.elim)).trans h4, fun y U hy hf => h5 y U (bsl_heap hw hy) hf⟩

/-- what is left where a change was done -/
def Applied (w : World) (c : Nat → Nat) (mc pb po : Nat) (cs : List Value) (t : TypeId) (mo : Option Nat) (L : List (Bs × FV)) (ch : Chg) (w' : World) : Prop :=
  ∃ mo' L' c', RowIs w' pb ((cs.set po (.map mo')).set (po + 1) (.int .i64 (tot (txts L')))) t ∧ FilIs w' c' mc mo' L' ∧ txts L' = doC (txts L) ch ∧ (∀ k, k < w.heap.size → c' k = c k) ∧
    Keep (fun k => k = pb ∨ mo = some k ∨ c k = 3) w w' ∧ (∀ y U, BSl w 0 y U → (∀ g, y.ownBlock = some g → c g = 3) → Safe L y → BSl w' 0 y U ∧ Safe L' y) ∧ ∀ n, n ≠ ch.name → n ≠ ch.to → kget L' n = kget L n

theorem used_put {L : List (Bs × FV)} (hs : Srt L) (n : Bs) (v : Value) (T : Bs) (hold : lenV (oldV L n).1 = (oldV L n).2.length) (hb : tot (txts L) + T.length ≤ 4611686018427387904) :
    wrap64 ((tot (txts L) : Nat) + wrap64 (T.length - lenV (oldV L n).1)) = (tot (txts (kput L n (v, T))) : Nat) := by
  have h1 := tot_kput (srt_txts.2 hs) n T
  rw [oldV_txts] at h1
  rw [txts_put, hold]
  simp only
  rw [IntWalk.wrap64_in (_ - _) (by omega), IntWalk.wrap64_in _ (by omega)]
  omega
theorem used_del {L : List (Bs × FV)} (hs : Srt L) (n : Bs) (hold : lenV (oldV L n).1 = (oldV L n).2.length) (hb : tot (txts L) ≤ 4611686018427387904) :
    wrap64 ((tot (txts L) : Nat) - lenV (oldV L n).1) = (tot (txts (kdel L n)) : Nat) := by
  have h1 := tot_kdel (srt_txts.2 hs) n
  rw [oldV_txts] at h1
  rw [txts_del, hold]
  rw [IntWalk.wrap64_in _ (by omega)]
  omega
theorem safe_put {L : List (Bs × FV)} {y : Value} {n : Bs} {v : FV} (h : Safe L y) (hv : Fits v.1 y) : Safe (kput L n v) y := by
  intro x hx
  rcases mem_kput.1 hx with rfl | ⟨hx, _⟩
  · exact hv
  · exact h x hx
theorem safe_del {L : List (Bs × FV)} {y : Value} {n : Bs} (h : Safe L y) : Safe (kdel L n) y := fun x hx => h x (mem_kdel.1 hx).1

/-- what 'set' leaves, as the walks take it -/
def SetPost (pb po : Nat) (cs : List Value) (t : TypeId) (mo : Option Nat) (u : Int) (Lv : List (Bs × Value)) (n : Bs) (v : Value) (w w' : World) : Prop :=
  ∃ b, (mo = some b ∨ b = w.heap.size) ∧ b ≠ pb ∧ RowIs w' pb ((cs.set po (.map (some b))).set (po + 1) (.int .i64 (wrap64 (u + wrap64 (lenV v - lenV ((kget Lv n).getD (.slice none 0 0))))))) t ∧ MapIs w' b (kput Lv n v) ∧ Keep (fun k => k = pb ∨ mo = some k) w w'
theorem set_sl (pb po : Nat) (cs : List Value) (t : TypeId) (mo : Option Nat) (u : Int) (L : List (Bs × Value)) (s : ByteArray) (v : Value) (w : World) (hv : IsSl v) (hrow : RowIs w pb cs t) (h0 : cs[po]? = some (.map mo)) (h1 : cs[po + 1]? = some (.int .i64 u))
    (hm : MapV w mo L) (hne : ∀ b, mo = some b → b ≠ pb) (hsl : ∀ x ∈ L, IsSl x.2) (hs : s.size ≤ maxLen) (hl : L.length < maxLen) :
    Calls Try.prog 62 #[.pointer (some ⟨pb, po, none⟩), .string s, v] w fun e w' => e = .returned (.tuple #[]) ∧ SetPost pb po cs t mo u L s.data.toList v w w' := by
  obtain ⟨ad, n, c, rfl⟩ := hv
  exact set_any pb po cs t mo u L s ad n c w hrow h0 h1 hm hne hsl hs hl

/-- what a walk through 'apply' is given -/
structure ApIn (w : World) (c : Nat → Nat) (mc pb po : Nat) (cs : List Value) (t : TypeId) (mo : Option Nat) (L : List (Bs × FV)) : Prop where
  row : RowIs w pb cs t
  h0 : cs[po]? = some (.map mo)
  h1 : cs[po + 1]? = some (.int .i64 (tot (txts L)))
  fil : FilIs w c mc mo L
  mc3 : mc ≠ 3
  pb3 : c pb ≠ 3
  pbm : c pb ≠ mc
  len : L.length < maxLen
theorem ApIn.ne {w : World} {c : Nat → Nat} {mc pb po : Nat} {cs : List Value} {t : TypeId} {mo : Option Nat} {L : List (Bs × FV)} (h : ApIn w c mc pb po cs t mo L) : ∀ b, mo = some b → b ≠ pb := fun b e e2 => h.pbm (e2 ▸ h.fil.mcol b e)
theorem ApIn.molt {w : World} {c : Nat → Nat} {mc pb po : Nat} {cs : List Value} {t : TypeId} {mo : Option Nat} {L : List (Bs × FV)} (h : ApIn w c mc pb po cs t mo L) : ∀ b, mo = some b → b < w.heap.size := fun b e => by
  rcases h.fil.map with ⟨h0, _⟩ | ⟨b', h0, hm⟩
  · rw [h0] at e; cases e
  · rw [h0] at e; injection e with e; subst e; exact hm.lt

/-- a file is laid, its bytes in the old one's block or in a new one: what is left behind 'set' -/
theorem applied_put {w w1 w2 : World} {c : Nat → Nat} {mc pb po : Nat} {cs : List Value} {t : TypeId} {mo : Option Nat} {L : List (Bs × FV)} (h : ApIn w c mc pb po cs t mo L) (ch : Chg) (v : Value) (T : Bs)
    (hv : BSl w1 0 v T) (hloc : v.ownBlock = (oldV L ch.name).1.ownBlock ∨ ∃ g, v.ownBlock = some g ∧ w.heap.size ≤ g) (hk1 : Keep (fun k => (oldV L ch.name).1.ownBlock = some k) w w1)
    (hP : ∀ y U, BSl w 0 y U → Fits (oldV L ch.name).1 y → BSl w1 0 y U ∧ Fits v y) (hb : tot (txts L) + T.length ≤ 4611686018427387904)
    (hset : SetPost pb po cs t mo (tot (txts L) : Nat) (vals L) ch.name v w1 w2) (hdo : doC (txts L) ch = kput (txts L) ch.name T) : Applied w c mc pb po cs t mo L ch w2 := by
  obtain ⟨b, hbm, hbp, hr, hm, hk⟩ := hset
  have hlen := bsl_len (h.fil.old ch.name)
  rw [oldV_vals, bsl_len hv, used_put h.fil.srt ch.name v T hlen hb] at hr
  have hsz := hk1.size
  have hvl : ∀ g, v.ownBlock = some g → g < w1.heap.size := fun g e => bsl_block hv e
  have hbl : b < w.heap.size → c b = mc := by
    intro hlt
    rcases hbm with e | e
    · exact h.fil.mcol b e
    · omega
  refine ⟨some b, kput L ch.name (v, T), fun k => if k < w.heap.size then c k else if k = b then mc else 3, hr, ?_, by rw [txts_put, hdo], fun k hk => if_pos hk, ?_, fun y U hy hyc hsafe => ?_, fun n hn _ => kget_put_other L _ (fun e => hn e.symm)⟩
  · refine h.fil.put ch.name v T b hv hloc (fun y U hy hf => (hP y U hy hf).1) hk (fun k hkl hS => ?_) hm ?_ (fun k hk => if_pos hk) (fun g e hg => ?_)
    · rcases hS with rfl | e
      · rw [if_pos h.row.lt]; exact h.pb3
      · rw [if_pos (h.molt k e), h.fil.mcol k e]; exact h.mc3
    · by_cases hlt : b < w.heap.size
      · rw [if_pos hlt]; exact hbl hlt
      · rw [if_neg hlt, if_pos rfl]
    · have hgb : g ≠ b := by
        rcases hbm with e' | e'
        · have := h.molt b e'; omega
        · have := hvl g e; omega
      rw [if_neg (by omega), if_neg hgb]
  · refine (hk1.mono fun k _ e => .inr (.inr (h.fil.oldcol ch.name k e))).then hk fun j hj e => e.imp id .inl
  · have hf := safe_old hsafe ch.name
    have h1 := hP y U hy hf
    refine ⟨hk.bsl h1.1 ?_, safe_put hsafe h1.2⟩
    intro g e hS
    have h3 := hyc g e
    rcases hS with rfl | e2
    · exact h.pb3 h3
    · exact h.mc3 ((h.fil.mcol g e2).symm.trans h3)
end Go.Proofs.Ytnlodlpjokkepab
