/- A change's being done to files, whatever it is; and its first bytes alone. -/
import Derived.Test.YtnlodlpjokkepabApplyY
namespace Go.Proofs.Ytnlodlpjokkepab
open Go.RowKit Go.Maps
set_option linter.unusedVariables false

/-- a change's value -/
def cv (ch : Chg) : Value := chV ch.kind ⟨ch.name.toArray⟩ ⟨ch.to.toArray⟩ ⟨ch.s.toArray⟩ ch.long
/-- a change that may be done -/
structure ChOk (A : List (Bs × Bs)) (ch : Chg) : Prop where
  kind : ch.kind ≤ 4
  name : ch.name.length ≤ maxLen
  to : ch.to.length ≤ maxLen
  move : ch.kind = 2 → ch.to ≠ ch.name
  cut : ch.kind = 4 → ch.long ≤ ((kget A ch.name).getD []).length
theorem size_mk (l : Bs) : (ByteArray.mk l.toArray).size = l.length := by show l.toArray.size = _; simp

theorem apply_any (pb po : Nat) (cs : List Value) (t : TypeId) (mo : Option Nat) (L : List (Bs × FV)) (c : Nat → Nat) (mc : Nat) (ch : Chg) (w : World) (h : ApIn w c mc pb po cs t mo L) (hc : ChOk (txts L) ch) (hb : tot (txts L) + ch.s.length ≤ 140737488355328) (hlen : L.length + 1 < maxLen) :
    Calls Try.prog 48 #[.pointer (some ⟨pb, po, none⟩), cv ch] w fun e w' => e = .returned (.tuple #[]) ∧ Applied w c mc pb po cs t mo L ch w' := by
  obtain ⟨kind, name, to, s, long⟩ := ch
  have e1 : ∀ l : Bs, (ByteArray.mk l.toArray).data.toList = l := fun l => by simp
  have h1 := hc.kind
  have h2 := hc.name
  have h3 := hc.to
  have h4 := hc.move
  have h5 := hc.cut
  simp only at h1 h2 h3 h4 h5 hb
  unfold cv
  simp only
  match kind, h1, h4, h5 with
  | 0, _, _, _ =>
    have := apply_app pb po cs t mo L c mc ⟨name.toArray⟩ ⟨to.toArray⟩ ⟨s.toArray⟩ long long w h (by rw [size_mk]; exact h2) (by rw [size_mk]; exact hb)
    rw [e1, e1, e1] at this; exact this
  | 1, _, _, _ =>
    have := apply_wr pb po cs t mo L c mc ⟨name.toArray⟩ ⟨to.toArray⟩ ⟨s.toArray⟩ long long w h (by rw [size_mk]; exact h2) (by rw [size_mk]; exact hb)
    rw [e1, e1, e1] at this; exact this
  | 2, _, h4, _ =>
    have := apply_mv pb po cs t mo L c mc ⟨name.toArray⟩ ⟨to.toArray⟩ ⟨s.toArray⟩ long long w h (by rw [size_mk]; exact h2) (by rw [size_mk]; exact h3) (by rw [e1, e1]; exact h4 rfl) (by omega) hlen
    rw [e1, e1, e1] at this; exact this
  | 3, _, _, _ =>
    have := apply_del pb po cs t mo L c mc ⟨name.toArray⟩ ⟨to.toArray⟩ ⟨s.toArray⟩ long long w h (by rw [size_mk]; exact h2) (by omega)
    rw [e1, e1, e1] at this; exact this
  | 4, _, _, h5 =>
    have := apply_cut pb po cs t mo L c mc ⟨name.toArray⟩ ⟨to.toArray⟩ ⟨s.toArray⟩ long w h (by rw [size_mk]; exact h2) (by omega) (by rw [e1]; have := h5 rfl; rw [oldV_txts] at this; exact this)
    rw [e1, e1, e1] at this; exact this
  | k + 5, hk, _, _ => omega

/-- what is left where files came to be A' -/
def AppliedTo (w : World) (c : Nat → Nat) (mc pb po : Nat) (cs : List Value) (t : TypeId) (A' : List (Bs × Bs)) (w' : World) : Prop :=
  ∃ mo' L' c', RowIs w' pb ((cs.set po (.map mo')).set (po + 1) (.int .i64 (tot A'))) t ∧ FilIs w' c' mc mo' L' ∧ txts L' = A' ∧ (∀ k, k < w.heap.size → c' k = c k) ∧ Keep (fun k => k = pb ∨ c k = mc ∨ c k = 3) w w'
theorem Applied.less {w w' : World} {c : Nat → Nat} {mc pb po : Nat} {cs : List Value} {t : TypeId} {mo : Option Nat} {L : List (Bs × FV)} {ch : Chg} (hm : ∀ b, mo = some b → c b = mc) (h : Applied w c mc pb po cs t mo L ch w') : AppliedTo w c mc pb po cs t (doC (txts L) ch) w' := by
  obtain ⟨mo', L', c', hr, hf, ht, hc, hk, _, _⟩ := h
  exact ⟨mo', L', c', by rw [← ht]; exact hr, hf, ht, hc, hk.mono fun k _ e => e.imp id (fun e => e.imp (hm k) id)⟩
theorem set_same {cs : List Value} {po : Nat} {v : Value} (h : cs[po]? = some v) : cs.set po v = cs := by
  apply List.ext_getElem?
  intro i
  by_cases hi : po = i
  · subst hi; rw [List.getElem?_set_self (List.getElem?_eq_some_iff.1 h).1, h]
  · rw [List.getElem?_set_ne hi]
theorem ApIn.none {w w' : World} {c : Nat → Nat} {mc pb po : Nat} {cs : List Value} {t : TypeId} {mo : Option Nat} {L : List (Bs × FV)} (h : ApIn w c mc pb po cs t mo L) (k : Keep (fun _ => False) w w') : AppliedTo w c mc pb po cs t (txts L) w' :=
  ⟨mo, L, c, by rw [set_same h.h0, set_same h.h1]; exact h.row.keep k (fun h => h), h.fil.keep k (fun _ _ => rfl) (fun _ h => h.elim), rfl, fun _ _ => rfl, k.mono fun _ _ h => h.elim⟩
theorem ApIn.keepF {w w' : World} {c : Nat → Nat} {mc pb po : Nat} {cs : List Value} {t : TypeId} {mo : Option Nat} {L : List (Bs × FV)} (h : ApIn w c mc pb po cs t mo L) (k : Keep (fun _ => False) w w') : ApIn w' c mc pb po cs t mo L :=
  ⟨h.row.keep k (fun h => h), h.h0, h.h1, h.fil.keep k (fun _ _ => rfl) (fun _ h => h.elim), h.mc3, h.pb3, h.pbm, h.len⟩
theorem AppliedTo.from {w w1 w' : World} {c : Nat → Nat} {mc pb po : Nat} {cs : List Value} {t : TypeId} {A' : List (Bs × Bs)} (k : Keep (fun _ => False) w w1) (h : AppliedTo w1 c mc pb po cs t A' w') : AppliedTo w c mc pb po cs t A' w' := by
  obtain ⟨mo', L', c', hr, hf, ht, hc, hk⟩ := h
  exact ⟨mo', L', c', hr, hf, ht, fun j hj => hc j (Nat.lt_of_lt_of_le hj k.size), (k.mono fun _ _ h => h.elim).trans hk⟩

/-- files behind the first bytes of a change -/
def tearC (A : List (Bs × Bs)) (ch : Chg) (torn : Int) : List (Bs × Bs) := if torn ≤ 0 ∨ 1 < ch.kind then A else doC A { ch with s := ch.s.take torn.toNat }
theorem extract_mk (l : Bs) (k : Nat) : (ByteArray.mk l.toArray).extract 0 k = ⟨(l.take k).toArray⟩ := by
  apply ByteArray.ext
  simp

set_option maxRecDepth 100000 in
set_option maxHeartbeats 2000000 in
theorem tear_any (pb po : Nat) (cs : List Value) (t : TypeId) (mo : Option Nat) (L : List (Bs × FV)) (c : Nat → Nat) (mc : Nat) (ch : Chg) (torn : Int) (w : World) (h : ApIn w c mc pb po cs t mo L) (hc : ChOk (txts L) ch) (hb : tot (txts L) + ch.s.length ≤ 140737488355328) (hlen : L.length + 1 < maxLen) :
    Calls Try.prog 49 #[.pointer (some ⟨pb, po, none⟩), cv ch, .int .i64 torn] w fun e w' => e = .returned (.tuple #[]) ∧ AppliedTo w c mc pb po cs t (tearC (txts L) ch torn) w' := by
  obtain ⟨kind, name, to, s, long⟩ := ch
  have kb := keep_alloc (fun _ => False) w (chO kind ⟨name.toArray⟩ ⟨to.toArray⟩ ⟨s.toArray⟩ long)
  have b0 := ch_cell w kind ⟨name.toArray⟩ ⟨to.toArray⟩ ⟨s.toArray⟩ long 0
  have b3 := ch_cell w kind ⟨name.toArray⟩ ⟨to.toArray⟩ ⟨s.toArray⟩ long 3
  simp only [List.getElem?_toArray, List.getElem?_cons_zero, List.getElem?_cons_succ] at b0 b3
  by_cases h1 : torn ≤ 0
  · have HA : Hid (AppliedTo w c mc pb po cs t (tearC (txts L) ⟨kind, name, to, s, long⟩ torn) (w.alloc (chO kind ⟨name.toArray⟩ ⟨to.toArray⟩ ⟨s.toArray⟩ long))) := by
      show AppliedTo _ _ _ _ _ _ _ _ _
      rw [show tearC (txts L) ⟨kind, name, to, s, long⟩ torn = txts L from by unfold tearC; simp [h1]]
      exact h.none kb
    generalize tearC (txts L) ⟨kind, name, to, s, long⟩ torn = A' at HA ⊢
    clear h hc hb hlen kb
    unfold cv
    simp only
    generalize hwb : w.alloc (chO kind ⟨name.toArray⟩ ⟨to.toArray⟩ ⟨s.toArray⟩ long) = wb at *
    unfold chO at hwb
    unfold chV
    go_enter Try.func49, Try.ntmps49
    go_wp2
    (try simp only [Exit.inBlock, Exit.then]); refine bodyPost_ret (results_none rfl _ _ _) rfl ?_
    exact ⟨rfl, HA.out⟩
  · have h1' : ¬ torn ≤ 0 := h1
    by_cases hk : 1 < kind
    · have HA : Hid (AppliedTo w c mc pb po cs t (tearC (txts L) ⟨kind, name, to, s, long⟩ torn) (w.alloc (chO kind ⟨name.toArray⟩ ⟨to.toArray⟩ ⟨s.toArray⟩ long))) := by
        show AppliedTo _ _ _ _ _ _ _ _ _
        rw [show tearC (txts L) ⟨kind, name, to, s, long⟩ torn = txts L from by unfold tearC; simp [hk]]
        exact h.none kb
      generalize tearC (txts L) ⟨kind, name, to, s, long⟩ torn = A' at HA ⊢
      have hd : decide (torn ≤ 0) = false := decide_eq_false h1
      have e0 : ((kind : Int) != 0) = true := by rw [bne_iff_ne]; omega
      have e1 : ((kind : Int) != 1) = true := by rw [bne_iff_ne]; omega
      clear h hc hb hlen kb hk
      unfold cv
      simp only
      generalize hwb : w.alloc (chO kind ⟨name.toArray⟩ ⟨to.toArray⟩ ⟨s.toArray⟩ long) = wb at *
      unfold chO at hwb
      unfold chV
      generalize (kind : Int) = ki at *
      go_enter Try.func49, Try.ntmps49
      go_wp2
      (try simp only [Exit.inBlock, Exit.then]); refine bodyPost_ret (results_none rfl _ _ _) rfl ?_
      exact ⟨rfl, HA.out⟩
    · have hk01 : kind = 0 ∨ kind = 1 := by omega
      have hm : min torn.toNat s.length ≤ s.length := Nat.min_le_right _ _
      have hst : s.take (min torn.toNat s.length) = s.take torn.toNat := by
        by_cases hle : torn.toNat ≤ s.length
        · rw [Nat.min_eq_left hle]
        · rw [Nat.min_eq_right (by omega), List.take_of_length_le (Nat.le_refl _), List.take_of_length_le (by omega)]
      have hmi : (min torn (s.length : Int)) = ((min torn.toNat s.length : Nat) : Int) := by omega
      have hmx := extract_mk s (min torn.toNat s.length)
      rw [hst] at hmx
      have HT : Hid (tearC (txts L) ⟨kind, name, to, s, long⟩ torn = doC (txts L) ⟨kind, name, to, s.take torn.toNat, long⟩) := by
        show _ = _
        unfold tearC
        rw [if_neg (by simp only; omega)]
      have hmin : (if ((ByteArray.mk s.toArray).size : Int) < torn then ((ByteArray.mk s.toArray).size : Int) else torn) = ((min torn.toNat s.length : Nat) : Int) := by
        rw [size_mk]; split <;> omega
      have hms : ((min torn.toNat s.length : Nat) : Int) ≤ ((ByteArray.mk s.toArray).size : Int) := by rw [size_mk]; omega
      have b1 := ch_cell w kind ⟨name.toArray⟩ ⟨to.toArray⟩ ⟨s.toArray⟩ long 1
      have b2 := ch_cell w kind ⟨name.toArray⟩ ⟨to.toArray⟩ ⟨s.toArray⟩ long 2
      have b4 := ch_cell w kind ⟨name.toArray⟩ ⟨to.toArray⟩ ⟨s.toArray⟩ long 4
      have f3 : (w.alloc (chO kind ⟨name.toArray⟩ ⟨to.toArray⟩ ⟨s.toArray⟩ long)).frozen? ⟨w.heap.size, 3, none⟩ = false := by unfold World.frozen?; rw [show (w.alloc (chO kind ⟨name.toArray⟩ ⟨to.toArray⟩ ⟨s.toArray⟩ long)).heap[w.heap.size]? = some _ from heap_alloc_new _ _]; simp [chO]
      simp only [List.getElem?_toArray, List.getElem?_cons_zero, List.getElem?_cons_succ] at b1 b2 b4
      have hc2 : ChOk (txts L) ⟨kind, name, to, s.take torn.toNat, long⟩ := ⟨hc.kind, hc.name, hc.to, hc.move, hc.cut⟩
      have AP : Hid (∀ W, Keep (fun _ => False) w W → Calls Try.prog 48 #[.pointer (some ⟨pb, po, none⟩), cv ⟨kind, name, to, s.take torn.toNat, long⟩] W fun e w' => e = .returned (.tuple #[]) ∧ AppliedTo w c mc pb po cs t (doC (txts L) ⟨kind, name, to, s.take torn.toNat, long⟩) w') := by
        intro W hW
        refine (apply_any pb po cs t mo L c mc _ W (h.keepF hW) hc2 ?_ hlen).mono fun e w' ⟨he, hA⟩ => ⟨he, (hA.less (h.fil.mcol)).from hW⟩
        simp only [List.length_take]
        simp only at hb
        omega
      have HKs : Hid (∀ v, Keep (fun _ => False) w ((w.alloc (chO kind ⟨name.toArray⟩ ⟨to.toArray⟩ ⟨s.toArray⟩ long)).setCell ⟨w.heap.size, 3, none⟩ v)) := fun v => kb.then (keep_setCell _ _ _ v) (fun j hj e => by omega)
      rw [HT.out]
      generalize doC (txts L) ⟨kind, name, to, s.take torn.toNat, long⟩ = A' at AP ⊢
      have hd : decide (torn ≤ 0) = false := decide_eq_false h1
      have hmx := extract_mk s (min torn.toNat s.length)
      rw [hst] at hmx
      unfold cv chV at AP
      simp only at AP
      unfold cv chV
      simp only
      clear HT h hc hc2 hb hlen kb hk hst hmi hm
      generalize hwb : w.alloc (chO kind ⟨name.toArray⟩ ⟨to.toArray⟩ ⟨s.toArray⟩ long) = wb at *
      unfold chO at hwb
      generalize ByteArray.mk name.toArray = bn at *
      generalize ByteArray.mk to.toArray = bt at *
      generalize ByteArray.mk s.toArray = bs0 at *
      generalize ByteArray.mk (s.take torn.toNat).toArray = bs1 at *
      generalize min torn.toNat s.length = m at *
      clear hwb
      rcases hk01 with rfl | rfl
      all_goals
        go_enter Try.func49, Try.ntmps49
        go_wp2_with fail
        refine (AP.out _ (keep_alloc _ _ _)).mono ?_
        rintro e w2 ⟨rfl, hA⟩
        clear AP HKs
        go_wp2
        go_end0
        exact ⟨rfl, hA⟩
end Go.Proofs.Ytnlodlpjokkepab
