/- Joined: The walk of the law ShotGathers. The walk of the law ShotGathers. -/
import Derived.Test.YtpbfjcgncfdfnaaJoined20
import Derived.Test.YtpbfjcgncfdfnaaJoined18
import Derived.Test.YtpbfjcgncfdfnaaJoined12
import Derived.Test.YtpbfjcgncfdfnaaChZ
import Derived.BigRegion
import Derived.Deep.RegionHeld3
import Derived.Deep.RegionLaw
import Derived.Deep.CutRange
namespace Go.Proofs.Ytpbfjcgncfdfnaa
open Go.RowKit Go.Maps
set_option linter.unusedVariables false
set_option linter.unusedSimpArgs false

/-- the memory of the law between two chunks: the gatherer, what it holds, the document's own -/
structure GM (w : World) (g g' : Ga) (v : Value) (W : World) : Prop where
  r : RowIs W w.heap.size (gaC v g') 50
  b : BSl W 0 v g'.tx
  z : g'.tx.length ≤ 262144
  o : ∀ b, v.ownBlock = some b → w.heap.size + 2 ≤ b
  m : RowIs W (w.heap.size + 1) [.bool g.bg, .int .i64 g.ix, .int .i64 g.tm, .string ⟨g.tx.toArray⟩] 26
  bl : Below w.heap.size w W
theorem GM.next {w W W' : World} {g g' : Ga} {v : Value} (h : GM w g g' v W) (hb : Below W.heap.size W W') : GM w g g' v W' := by
  have k := hb.keep (fun _ => False)
  exact ⟨h.r.keep k (fun h => h), bsl_over h.b k (fun _ _ h => h), h.z, h.o, h.m.keep k (fun h => h), below_on h.bl hb⟩
theorem GM.take {w W W' : World} {g : Ga} {v v' : Value} {R : Ga} (h : GM w g g v W) (hr : RowIs W' w.heap.size (gaC v' R) 50) (hb : BSl W' 0 v' R.tx) (hz : R.tx.length ≤ 262144) (ho : ∀ b, v'.ownBlock = some b → v.ownBlock = some b ∨ W.heap.size ≤ b) (hk : Keep (fun k => k = w.heap.size ∨ v.ownBlock = some k) W W') : GM w g R v' W' := by
  have hlt := h.m.lt
  refine ⟨hr, hb, hz, fun b e => ?_, h.m.keep hk (fun e => ?_), h.bl.trans (keep_below hk (fun j hj e => ?_) h.bl.size)⟩
  · rcases ho b e with e | e
    · exact h.o b e
    · omega
  · rcases e with e | e
    · omega
    · have := h.o _ e; omega
  · rcases e with e | e
    · omega
    · have := h.o _ e; omega
theorem gm_made (w W : World) (h : Below (w.heap.size + 2) ((w.alloc (.cells #[.bool false, .int .i64 0, .int .i64 0, .slice none 0 0] 50)).alloc (.cells #[.bool false, .int .i64 0, .int .i64 0, .string ⟨#[]⟩] 26)) W) : GM w ga0 ga0 (.slice none 0 0) W := by
  have h0 : GM w ga0 ga0 (.slice none 0 0) ((w.alloc (.cells #[.bool false, .int .i64 0, .int .i64 0, .slice none 0 0] 50)).alloc (.cells #[.bool false, .int .i64 0, .int .i64 0, .string ⟨#[]⟩] 26)) :=
    ⟨row_old (srow w _ _) _, .inl ⟨rfl, rfl⟩, (by show ([] : Bs).length ≤ _; simp), fun b e => (by cases e), row_last _ _ _ _ (by simp), below_al (below_al (Below.refl _ _) _) _⟩
  exact h0.next (by simpa using h)
/-- what region 9 leaves: the document's answers in their boxes -/
structure R9 (X : World) (g' : Ga) (x : Sh) (b9 b10 : Nat) (ad : Option Addr) (cap : Nat) (W : World) : Prop where
  r9 : RowIs W b9 [.bool g'.bg, .int .i64 g'.ix, .int .i64 g'.tm, .string ⟨g'.tx.toArray⟩] 26
  r10 : RowIs W b10 [.int .i64 x.ix, .int .i64 x.tm, .slice ad x.ms.length cap, .string x.da] 35
  i : IntsI W (.slice ad x.ms.length cap) x.ms
  g9 : X.heap.size ≤ b9
  g10 : X.heap.size ≤ b10
  o : ∀ bb oo, ad = some ⟨bb, oo, none⟩ → X.heap.size ≤ bb
  bl : Below X.heap.size X W
def p8 (W : World) (b9 b10 : Nat) (g' : Ga) (x : Sh) (v : Value) : World := ((((((((W.setCell ⟨b9, 0, none⟩ (.bool g'.bg)).setCell ⟨b9, 1, none⟩ (.int .i64 g'.ix)).setCell ⟨b9, 2, none⟩ (.int .i64 g'.tm)).setCell ⟨b9, 3, none⟩ (.string ⟨g'.tx.toArray⟩)).setCell ⟨b10, 0, none⟩ (.int .i64 x.ix)).setCell ⟨b10, 1, none⟩ (.int .i64 x.tm)).setCell ⟨b10, 2, none⟩ v).setCell ⟨b10, 3, none⟩ (.string x.da))
theorem r9_fin {X Wi W : World} {b9 b10 : Nat} (g' : Ga) (x : Sh) {ad : Option Addr} {cap : Nat} (r9 : RowIs W b9 [.bool false, .int .i64 0, .int .i64 0, .string ⟨#[]⟩] 26) (r10 : RowIs W b10 [.int .i64 0, .int .i64 0, .slice none 0 0, .string ⟨#[]⟩] 35) (hn : b9 ≠ b10) (g9 : X.heap.size ≤ b9) (g10 : X.heap.size ≤ b10) (hI : IntsI Wi (.slice ad x.ms.length cap) x.ms) (hiw : Below Wi.heap.size Wi W) (n9 : ∀ bb oo, ad = some ⟨bb, oo, none⟩ → bb < Wi.heap.size → bb ≠ b9 ∧ bb ≠ b10) (ho : ∀ bb oo, ad = some ⟨bb, oo, none⟩ → X.heap.size ≤ bb) (bl : Below X.heap.size X W) :
    R9 X g' x b9 b10 ad cap (p8 W b9 b10 g' x (.slice ad x.ms.length cap)) := by
  have k2 : ∀ (A : World) (o : Nat) (u : Value), Keep (fun k => k = b9 ∨ k = b10) A (A.setCell ⟨b9, o, none⟩ u) := fun A o u => (keep_setCell A b9 o u).mono (fun _ _ h => .inl h)
  have k3 : ∀ (A : World) (o : Nat) (u : Value), Keep (fun k => k = b9 ∨ k = b10) A (A.setCell ⟨b10, o, none⟩ u) := fun A o u => (keep_setCell A b10 o u).mono (fun _ _ h => .inr h)
  have a4 := (((r9.set 0 (.bool g'.bg)).set 1 (.int .i64 g'.ix)).set 2 (.int .i64 g'.tm)).set 3 (.string ⟨g'.tx.toArray⟩)
  have q4 := (((a4.keep (keep_setCell _ b10 0 (.int .i64 x.ix)) (by omega)).keep (keep_setCell _ b10 1 (.int .i64 x.tm)) (by omega)).keep (keep_setCell _ b10 2 (.slice ad x.ms.length cap)) (by omega)).keep (keep_setCell _ b10 3 (.string x.da)) (by omega)
  have a5 := (((r10.keep (keep_setCell _ b9 0 (.bool g'.bg)) (by omega)).keep (keep_setCell _ b9 1 (.int .i64 g'.ix)) (by omega)).keep (keep_setCell _ b9 2 (.int .i64 g'.tm)) (by omega)).keep (keep_setCell _ b9 3 (.string ⟨g'.tx.toArray⟩)) (by omega)
  have q5 := (((a5.set 0 (.int .i64 x.ix)).set 1 (.int .i64 x.tm)).set 2 (.slice ad x.ms.length cap)).set 3 (.string x.da)
  have kk : Keep (fun k => k = b9 ∨ k = b10) W (p8 W b9 b10 g' x (.slice ad x.ms.length cap)) := by
    unfold p8
    refine Keep.trans ?_ (k3 _ 3 _)
    refine Keep.trans ?_ (k3 _ 2 _)
    refine Keep.trans ?_ (k3 _ 1 _)
    refine Keep.trans ?_ (k3 _ 0 _)
    refine Keep.trans ?_ (k2 _ 3 _)
    refine Keep.trans ?_ (k2 _ 2 _)
    refine Keep.trans ?_ (k2 _ 1 _)
    exact k2 _ 0 _
  refine ⟨by unfold p8; exact q4, by unfold p8; exact q5, ?_, g9, g10, ho, bl.trans (keep_below kk (fun j hj e => by omega) bl.size)⟩
  have kw := (hiw.keep (fun k => k = b9 ∨ k = b10)).trans kk
  rcases hI with hI | ⟨g1, off, cp, e, hg, hc⟩
  · exact .inl hI
  · have e0 := e
    refine .inr ⟨g1, off, cp, e0, Nat.lt_of_lt_of_le hg kw.size, fun j hj => ?_⟩
    simp only [Value.slice.injEq] at e
    have := n9 g1 off e.1 hg
    rw [kw.cell hg (by omega)]
    exact hc j hj
theorem ints_set {W : World} {ad : Option Addr} {cap : Nat} {l : List Int} {p : Nat} (h : IntsI W (.slice ad l.length cap) l) (hn : ∀ bb oo, ad = some ⟨bb, oo, none⟩ → bb ≠ p) (o : Nat) (u : Value) : IntsI (W.setCell ⟨p, o, none⟩ u) (.slice ad l.length cap) l := by
  have k := keep_setCell W p o u
  rcases h with h | ⟨g1, off, cp, e, hg, hc⟩
  · exact .inl h
  · have e0 := e
    refine .inr ⟨g1, off, cp, e0, Nat.lt_of_lt_of_le hg k.size, fun j hj => ?_⟩
    simp only [Value.slice.injEq] at e
    have := hn g1 off e.1
    rw [k.cell hg (by omega)]
    exact hc j hj
/-- what region 10 leaves: the document's gatherer is the new one -/
structure R10 (w : World) (g' : Ga) (x : Sh) (v : Value) (p6 b10 : Nat) (ad1 : Option Addr) (cap1 : Nat) (ad2 : Option Addr) (cap2 : Nat) (W : World) : Prop where
  m : GM w g' g' v W
  r6 : RowIs W p6 [.int .i64 x.ix, .int .i64 x.tm, .slice ad1 x.ms.length cap1, .string x.da] 30
  r10 : RowIs W b10 [.int .i64 x.ix, .int .i64 x.tm, .slice ad2 x.ms.length cap2, .string x.da] 35
  i1 : IntsI W (.slice ad1 x.ms.length cap1) x.ms
  i2 : IntsI W (.slice ad2 x.ms.length cap2) x.ms
theorem R10.next {w : World} {g' : Ga} {x : Sh} {v : Value} {p6 b10 : Nat} {ad1 : Option Addr} {cap1 : Nat} {ad2 : Option Addr} {cap2 : Nat} {W W' : World} (h : R10 w g' x v p6 b10 ad1 cap1 ad2 cap2 W) (hb : Below W.heap.size W W') : R10 w g' x v p6 b10 ad1 cap1 ad2 cap2 W' :=
  have k := hb.keep (fun _ => False)
  ⟨h.m.next hb, h.r6.keep k (fun h => h), h.r10.keep k (fun h => h), h.i1.next hb, h.i2.next hb⟩
def q4 (W : World) (p : Nat) (g' : Ga) : World := (((W.setCell ⟨p, 0, none⟩ (.bool g'.bg)).setCell ⟨p, 1, none⟩ (.int .i64 g'.ix)).setCell ⟨p, 2, none⟩ (.int .i64 g'.tm)).setCell ⟨p, 3, none⟩ (.string ⟨g'.tx.toArray⟩)
theorem gm_set {w W : World} {g g' : Ga} {v : Value} (h : GM w g g' v W) : GM w g' g' v (q4 W (w.heap.size + 1) g') := by
  have k : Keep (· = w.heap.size + 1) W (q4 W (w.heap.size + 1) g') := (((keep_setCell W _ 0 _).trans (keep_setCell _ _ 1 _)).trans (keep_setCell _ _ 2 _)).trans (keep_setCell _ _ 3 _)
  refine ⟨h.r.keep k (by omega), bsl_over h.b k (fun b e e2 => ?_), h.z, h.o, (((h.m.set 0 (.bool g'.bg)).set 1 (.int .i64 g'.ix)).set 2 (.int .i64 g'.tm)).set 3 (.string ⟨g'.tx.toArray⟩), h.bl.trans (keep_below k (fun j hj e => by omega) h.bl.size)⟩
  have := h.o b e; omega
theorem r10_fin {w X wc : World} {g g' : Ga} {x : Sh} {v : Value} {p6 b9 b10 : Nat} {ad1 : Option Addr} {cap1 : Nat} {ad2 : Option Addr} {cap2 : Nat} (hM : GM w g g' v X) (h6 : RowIs X p6 [.int .i64 x.ix, .int .i64 x.tm, .slice ad1 x.ms.length cap1, .string x.da] 30) (h6n : w.heap.size + 1 < p6) (hI : IntsI X (.slice ad1 x.ms.length cap1) x.ms) (hI1 : ∀ bb oo, ad1 = some ⟨bb, oo, none⟩ → w.heap.size + 2 ≤ bb) (hR : R9 X g' x b9 b10 ad2 cap2 wc) :
    R10 w g' x v p6 b10 ad1 cap1 ad2 cap2 (q4 wc (w.heap.size + 1) g') := by
  have hlt := hM.m.lt
  have k : Keep (· = w.heap.size + 1) wc (q4 wc (w.heap.size + 1) g') := (((keep_setCell wc _ 0 _).trans (keep_setCell _ _ 1 _)).trans (keep_setCell _ _ 2 _)).trans (keep_setCell _ _ 3 _)
  have kx := hR.bl.keep (fun _ => False)
  have n1 : ∀ bb oo, ad1 = some ⟨bb, oo, none⟩ → bb ≠ w.heap.size + 1 := fun bb oo e => by have := hI1 bb oo e; omega
  have n2 : ∀ bb oo, ad2 = some ⟨bb, oo, none⟩ → bb ≠ w.heap.size + 1 := fun bb oo e => by have := hR.o bb oo e; omega
  have hg := hR.g10
  exact ⟨gm_set (hM.next hR.bl), (h6.keep kx (fun h => h)).keep k (by omega), hR.r10.keep k (by omega), ints_set (ints_set (ints_set (ints_set (hI.next hR.bl) n1 _ _) n1 _ _) n1 _ _) n1 _ _, ints_set (ints_set (ints_set (ints_set hR.i n2 _ _) n2 _ _) n2 _ _) n2 _ _⟩
theorem sdV_ms (t : ByteArray) : (sdV t).ms.length ≤ 7 := by
  unfold sdV
  split
  · rename_i h
    unfold sdOk at h
    have h2 : chkS (sdT t).s = 0 := by simp at h; exact h.2
    exact (chk_ok h2).2.2.2.1
  · simp [sh0]
theorem endS_ms (ix tm : Int) (t : Bs) : (endS ix tm t).1.ms.length ≤ 7 := by
  unfold endS
  split
  · exact sdV_ms _
  · simp [sh0]
theorem takeG_ms (g : Ga) (c : Ch) : (takeG g c).2.1.1.ms.length ≤ 7 := by
  unfold takeG
  split
  · split
    · split
      · split
        · exact endS_ms _ _ _
        · simp [sh0]
      · simp [sh0]
    · simp [sh0]
  · simp [sh0]
end Go.Proofs.Ytpbfjcgncfdfnaa
namespace Go.Proofs.Ytpbfjcgncfdfnaa
open Go.RowKit Go.Maps
set_option linter.unusedVariables false
set_option linter.unusedSimpArgs false

theorem bl_set {X W : World} {b : Nat} (h : Below X.heap.size X W) (hb : X.heap.size ≤ b) (o : Nat) (u : Value) : Below X.heap.size X (W.setCell ⟨b, o, none⟩ u) := h.trans (keep_below (keep_setCell W b o u) (fun j hj e => by omega) h.size)
theorem srowN (W : World) {n : Nat} (hn : W.heap.size = n) (l : List Value) (t : TypeId) : RowIs (W.alloc (.cells l.toArray t)) n l t := by subst hn; exact srow W l t
theorem z4 {W : World} {b9 b10 : Nat} {l : List Value} {t : TypeId} (u0 u1 u2 u3 : Value) (r : RowIs W b10 l t) (hn : b9 ≠ b10) : RowIs ((((W.setCell ⟨b9, 0, none⟩ u0).setCell ⟨b9, 1, none⟩ u1).setCell ⟨b9, 2, none⟩ u2).setCell ⟨b9, 3, none⟩ u3) b10 l t := (((r.keep (keep_setCell _ b9 0 u0) (by omega)).keep (keep_setCell _ b9 1 u1) (by omega)).keep (keep_setCell _ b9 2 u2) (by omega)).keep (keep_setCell _ b9 3 u3) (by omega)
set_option maxRecDepth 100000 in
set_option maxHeartbeats 4000000 in
theorem shotGathers_walk (v : Value) (l : List Ch) (w : World) (hv : ChI w v l) (hz : l.length * 48 ≤ 140737488355328) (hy : ∀ y ∈ l, ibulk.SzCb y) : Calls Try.prog 3 #[v] w fun e w' => e = .returned (.bool true) ∧ Below w.heap.size w w' := by
  obtain ⟨ad, cap, rfl, hc⟩ := hv.form
  have HC := hid hc
  have HV := hid hv
  have HY := hid hy
  have AW := hid awake7
  clear hc hv hy
  go_enter Try.func3, Try.ntmps3
  go_wp2_with fail
  refine (newgather_any _).mono ?_
  rintro e w1 ⟨rfl, rfl⟩
  go_wp2_with fail
  refine (AW.out _).mono ?_
  rintro e w2 ⟨rfl, b2⟩
  have M0 := hid (gm_made w w2 (by simpa using b2))
  clear b2 AW
  go_wp2_with fail
  go_loopw [5] (fun i wr => ∃ (k : Nat) (g : Ga) (v : Value), k ≤ l.length ∧ i = .int .i64 (k : Int) ∧ Hid (GM w g g v wr)) (fun i _ => l.length - (intOf i).toNat)
  case atStart => exact ⟨0, ga0, .slice none 0 0, Nat.zero_le _, rfl, M0⟩
  case round =>
    obtain ⟨k, g, v, hk, rfl, HG⟩ := hrel
    have NT := hid niltake_any
    by_cases hlt : k < l.length
    · have hk1 : (k : Int) < (l.length : Int) := by omega
      have hd1 : decide ((k : Int) < (l.length : Int)) = true := decide_eq_true hk1
      by_cases h2 : k < 200
      · have hk0 : (0 : Int) ≤ (k : Int) := by omega
        have hk2 : (k : Int) < 200 := by omega
        have hd2 : decide ((k : Int) < 200) = true := decide_eq_true hk2
        have hwk : wrap64 ((k : Int) + 1) = ((k + 1 : Nat) : Int) := by rw [IntWalk.wrap64_in _ (by omega)]; omega
        obtain ⟨b, off, rfl, hb, e0, e1, e2, e3, e4⟩ := HC.out k hlt
        have HSZ : Hid (l[k].da.size ≤ 140737488355328) := HY.out _ (List.getElem_mem hlt)
        have HCH : Hid (∀ W, Below w.heap.size w W → W.cell? ⟨b, off + k * 5, none⟩ = some (.int .i64 l[k].ix) ∧ W.cell? ⟨b, off + k * 5 + 1, none⟩ = some (.int .i64 l[k].tm) ∧ W.cell? ⟨b, off + k * 5 + 2, none⟩ = some (.int .i64 l[k].at_) ∧ W.cell? ⟨b, off + k * 5 + 3, none⟩ = some (.bool l[k].ls) ∧ W.cell? ⟨b, off + k * 5 + 4, none⟩ = some (.string l[k].da)) := fun W hW => ⟨(hW.cell (p := ⟨b, off + k * 5, none⟩) hb).trans e0, (hW.cell (p := ⟨b, off + k * 5 + 1, none⟩) hb).trans e1, (hW.cell (p := ⟨b, off + k * 5 + 2, none⟩) hb).trans e2, (hW.cell (p := ⟨b, off + k * 5 + 3, none⟩) hb).trans e3, (hW.cell (p := ⟨b, off + k * 5 + 4, none⟩) hb).trans e4⟩
        have HLT := hid hlt
        generalize l[k] = c at *
        have T1 : Hid (Calls Try.prog 7 #[.pointer (some ⟨w.heap.size, 0, none⟩), .agg #[.int .i64 c.ix, .int .i64 c.tm, .int .i64 c.at_, .bool c.ls, .string c.da]] wr fun e w' => Took w.heap.size v (takeG g c) wr e w') := gtake_any w.heap.size v g c wr HG.out.r HG.out.b HG.out.z (fun b e => by have := HG.out.o b e; omega) (Nat.le_trans HSZ.out (by decide))
        have HTZ : Hid ((takeG g c).1.tx.length ≤ 262144) := takeG_len g c HG.out.z
        have HTM : Hid ((takeG g c).2.1.1.ms.length ≤ 7) := takeG_ms g c
        clear HC HY hz HV NT e0 e1 e2 e3 e4 hb M0 hlt h2
        obtain ⟨z0, z1, z2, z3, z4⟩ := HCH.out _ HG.out.bl
        obtain ⟨ci, ct, ca, cl, cd⟩ := c
        unfold Took shV at T1
        simp only at *
        generalize hR : takeG g ⟨ci, ct, ca, cl, cd⟩ = R at *
        obtain ⟨g', ⟨⟨si, st, sm, sd⟩, is⟩, at_⟩ := R
        have HRR := hid hR
        clear hR
        simp only at *
        go_wp2_with fail
        refine T1.out.mono ?_
        rintro e w3 ⟨ad1, cap1, v', rfl, ⟨I1, I1o⟩, r1, b1, o1, k1⟩
        have GZ : Hid (List.length g.tx ≤ 262144) := HG.out.z
        have M1 := hid (HG.out.take r1 b1 HTZ.out o1 k1)
        have HI1 := hid I1
        have HO1 : Hid (∀ bb oo, ad1 = some ⟨bb, oo, none⟩ → w.heap.size + 2 ≤ bb) := fun bb oo e => by have := I1o bb oo e; have := HG.out.m.lt; omega
        have P6 : Hid (w.heap.size + 1 < w3.heap.size) := M1.out.m.lt
        clear I1o
        clear I1 r1 b1 o1 k1 T1 HG HTZ z0 z1 z2 z3 z4
        have M2 := hid (M1.out.next (below_al (Below.refl _ _) (.cells #[.int .i64 si, .int .i64 st, .slice ad1 sm.length cap1, .string sd] 30)))
        have HI2 := hid (HI1.out.next (below_al (Below.refl _ _) (.cells #[.int .i64 si, .int .i64 st, .slice ad1 sm.length cap1, .string sd] 30)))
        have R6 := hid (srow w3 [.int .i64 si, .int .i64 st, .slice ad1 sm.length cap1, .string sd] 30)
        obtain ⟨bg, gi, gt, gx⟩ := g
        obtain ⟨g1, g2, g3, g4⟩ := g'
        have HT : Hid (∀ W, Calls Try.prog 8 #[.agg #[.bool bg, .int .i64 gi, .int .i64 gt, .string ⟨gx.toArray⟩], .agg #[.int .i64 ci, .int .i64 ct, .int .i64 ca, .bool cl, .string cd]] W (fun e w' => ∃ ad cap, e = .returned (.tuple #[.agg #[.bool g1, .int .i64 g2, .int .i64 g3, .string ⟨g4.toArray⟩], .agg #[.int .i64 si, .int .i64 st, .slice ad sm.length cap, .string sd], .bool is, .int .i64 at_]) ∧ IntsI w' (.slice ad sm.length cap) sm ∧ Below W.heap.size W w' ∧ ∀ bb oo, ad = some ⟨bb, oo, none⟩ → W.heap.size ≤ bb)) := fun W => by
          have h := rtake_any ⟨bg, gi, gt, gx⟩ ⟨ci, ct, ca, cl, cd⟩ W GZ.out HSZ.out
          rw [HRR.out] at h
          exact h
        clear M1 HI1 HRR GZ HSZ
        go_wp2_with fail
        generalize w3.alloc (.cells #[.int .i64 si, .int .i64 st, .slice ad1 sm.length cap1, .string sd] 30) = X at *
        have HCE : Hid (∀ W, Below X.heap.size X W → (fun w' => w'.cell? ⟨w.heap.size + 1, 0, none⟩ = some (.bool bg) ∧ w'.cell? ⟨w.heap.size + 1, 1, none⟩ = some (.int .i64 gi) ∧ w'.cell? ⟨w.heap.size + 1, 2, none⟩ = some (.int .i64 gt) ∧ w'.cell? ⟨w.heap.size + 1, 3, none⟩ = some (.string ⟨gx.toArray⟩) ∧ w'.cell? ⟨b, off + k * 5, none⟩ = some (.int .i64 ci) ∧ w'.cell? ⟨b, off + k * 5 + 1, none⟩ = some (.int .i64 ct) ∧ w'.cell? ⟨b, off + k * 5 + 2, none⟩ = some (.int .i64 ca) ∧ w'.cell? ⟨b, off + k * 5 + 3, none⟩ = some (.bool cl) ∧ w'.cell? ⟨b, off + k * 5 + 4, none⟩ = some (.string cd)) W) := fun W hW => by
          have q := M2.out.next hW
          exact ⟨q.m.cellAt rfl, q.m.cellAt rfl, q.m.cellAt rfl, q.m.cellAt rfl, HCH.out W q.bl⟩
        go_cut [9, 10, 11, 12] from 25 to 71 (fun s9 s10 s11 s12 wx => ∃ (b9 b10 : Nat) (ad2 : Option Addr) (cap2 : Nat), s9 = .pointer (some ⟨b9, 0, none⟩) ∧ s10 = .pointer (some ⟨b10, 0, none⟩) ∧ s11 = .bool is ∧ s12 = .int .i64 at_ ∧ Hid (R9 X ⟨g1, g2, g3, g4⟩ ⟨si, st, sm, sd⟩ b9 b10 ad2 cap2 wx))
        case first =>
          have B := hid (Below.refl X.heap.size X).drew
          clear M2 HI2 R6 HCH P6 HO1 HTM
          refine wp_region_held_drew (S := (fun w' => w'.cell? ⟨w.heap.size + 1, 0, none⟩ = some (.bool bg) ∧ w'.cell? ⟨w.heap.size + 1, 1, none⟩ = some (.int .i64 gi) ∧ w'.cell? ⟨w.heap.size + 1, 2, none⟩ = some (.int .i64 gt) ∧ w'.cell? ⟨w.heap.size + 1, 3, none⟩ = some (.string ⟨gx.toArray⟩) ∧ w'.cell? ⟨b, off + k * 5, none⟩ = some (.int .i64 ci) ∧ w'.cell? ⟨b, off + k * 5 + 1, none⟩ = some (.int .i64 ct) ∧ w'.cell? ⟨b, off + k * 5 + 2, none⟩ = some (.int .i64 ca) ∧ w'.cell? ⟨b, off + k * 5 + 3, none⟩ = some (.bool cl) ∧ w'.cell? ⟨b, off + k * 5 + 4, none⟩ = some (.string cd))) (by kernel_rfl) (HCE.out _ B.out) (fun hHeld => ?_)
          refine wpAnyH_take (i := 0) (v := ?vv1) rfl (by kernel_rfl) (by kernel_rfl) (by kernel_rfl) (fun _ _ _ h => h) (Or.inl ⟨by rfl, ?hy1⟩) (by assumption) ?rest1
          case hy1 => (intro w hSw; (try dsimp only at hSw); go_simp; first | done | with_reducible rfl)
          try simp only [Act.put, List.getElem_toArray, List.getElem_cons_succ, List.getElem_cons_zero, List.setIfInBounds_toArray, List.set_cons_zero, List.set_cons_succ]
          refine wpAnyH_take (i := 1) (v := ?vv2) rfl (by kernel_rfl) (by kernel_rfl) (by kernel_rfl) (fun _ _ _ h => h) (Or.inl ⟨by rfl, ?hy2⟩) (by assumption) ?rest2
          case hy2 => (intro w hSw; (try dsimp only at hSw); go_simp; first | done | with_reducible rfl)
          try simp only [Act.put, List.getElem_toArray, List.getElem_cons_succ, List.getElem_cons_zero, List.setIfInBounds_toArray, List.set_cons_zero, List.set_cons_succ]
          refine wpAnyH_take (i := 2) (v := ?vv3) rfl (by kernel_rfl) (by kernel_rfl) (by kernel_rfl) (fun _ _ _ h => h) (Or.inl ⟨by rfl, ?hy3⟩) (by assumption) ?rest3
          case hy3 => (intro w hSw; (try dsimp only at hSw); go_simp; first | done | with_reducible rfl)
          try simp only [Act.put, List.getElem_toArray, List.getElem_cons_succ, List.getElem_cons_zero, List.setIfInBounds_toArray, List.set_cons_zero, List.set_cons_succ]
          refine wpAnyH_take (i := 3) (v := ?vv4) rfl (by kernel_rfl) (by kernel_rfl) (by kernel_rfl) (fun _ _ _ h => h) (Or.inl ⟨by rfl, ?hy4⟩) (by assumption) ?rest4
          case hy4 => (intro w hSw; (try dsimp only at hSw); go_simp; first | done | with_reducible rfl)
          try simp only [Act.put, List.getElem_toArray, List.getElem_cons_succ, List.getElem_cons_zero, List.setIfInBounds_toArray, List.set_cons_zero, List.set_cons_succ]
          refine wpAnyH_take (i := 4) (v := ?vv5) rfl (by kernel_rfl) (by kernel_rfl) (by kernel_rfl) (fun _ _ _ h => h) (Or.inl ⟨by rfl, ?hy5⟩) (by assumption) ?rest5
          case hy5 => (intro w hSw; (try dsimp only at hSw); go_simp; first | done | with_reducible rfl)
          try simp only [Act.put, List.getElem_toArray, List.getElem_cons_succ, List.getElem_cons_zero, List.setIfInBounds_toArray, List.set_cons_zero, List.set_cons_succ]
          refine wpAnyH_ready (rs := [5, 11, 12]) (by kernel_rfl) (by simp) ?_
          refine AllReadyH.cons rfl (fun K hK => ?_) (AllReadyH.cons rfl (fun K hK => ?_) (AllReadyH.cons rfl (fun K hK => ?_) (AllReadyH.nil)))
          · go_simp
            refine (HT.out (X.drew)).mono ?_
            rintro e wi ⟨ad2, cap2, rfl, i2, b2, o2⟩
            have I2 := hid i2
            have O2 : Hid (∀ bb oo, ad2 = some ⟨bb, oo, none⟩ → X.heap.size ≤ bb) := fun bb oo e => Nat.le_trans B.out.size (o2 bb oo e)
            have BI : Hid (Below wi.heap.size wi wi) := Below.refl _ _
            have kb := b2.keep (fun _ => False)
            replace B := hid (below_on B.out b2)
            clear i2 kb b2 o2
            go_wp2_with fail
            clear hHeld
            refine hK.out _ _ (HCE.out _ B.out) (fun hHeld => ?_)
            clear hK K
            try simp only [Act.put, List.getElem_toArray, List.getElem_cons_succ, List.getElem_cons_zero, List.setIfInBounds_toArray, List.set_cons_zero, List.set_cons_succ]
            refine wpAnyH_take (i := 6) (v := ?vv6) rfl (by kernel_rfl) (by kernel_rfl) (by kernel_rfl) (fun _ _ _ h => h) (Or.inl ⟨by rfl, ?hy6⟩) (by assumption) ?rest6
            case hy6 => (intro w hSw; (try dsimp only at hSw); go_simp; first | done | with_reducible rfl)
            try simp only [Act.put, List.getElem_toArray, List.getElem_cons_succ, List.getElem_cons_zero, List.setIfInBounds_toArray, List.set_cons_zero, List.set_cons_succ]
            refine wpAnyH_take (i := 7) (v := ?vv7) rfl (by kernel_rfl) (by kernel_rfl) (by kernel_rfl) (fun _ _ _ h => h) (Or.inl ⟨by rfl, ?hy7⟩) (by assumption) ?rest7
            case hy7 => (intro w hSw; (try dsimp only at hSw); go_simp; first | done | with_reducible rfl)
            try simp only [Act.put, List.getElem_toArray, List.getElem_cons_succ, List.getElem_cons_zero, List.setIfInBounds_toArray, List.set_cons_zero, List.set_cons_succ]
            refine wpAnyH_take (i := 8) (v := ?vv8) rfl (by kernel_rfl) (by kernel_rfl) (by kernel_rfl) (fun _ _ _ h => h) (Or.inl ⟨by rfl, ?hy8⟩) (by assumption) ?rest8
            case hy8 => (intro w hSw; (try dsimp only at hSw); go_simp; first | done | with_reducible rfl)
            try simp only [Act.put, List.getElem_toArray, List.getElem_cons_succ, List.getElem_cons_zero, List.setIfInBounds_toArray, List.set_cons_zero, List.set_cons_succ]
            refine wpAnyH_take (i := 9) (v := ?vv9) rfl (by kernel_rfl) (by kernel_rfl) (by kernel_rfl) (fun _ _ _ h => h) (Or.inl ⟨by rfl, ?hy9⟩) (by assumption) ?rest9
            case hy9 => (intro w hSw; (try dsimp only at hSw); go_simp; first | done | with_reducible rfl)
            try simp only [Act.put, List.getElem_toArray, List.getElem_cons_succ, List.getElem_cons_zero, List.setIfInBounds_toArray, List.set_cons_zero, List.set_cons_succ]
            refine wpAnyH_take (i := 10) (v := ?vv10) rfl (by kernel_rfl) (by kernel_rfl) (by kernel_rfl) (fun _ _ _ h => h) (Or.inl ⟨by rfl, ?hy10⟩) (by assumption) ?rest10
            case hy10 => (intro w hSw; (try dsimp only at hSw); go_simp; first | done | with_reducible rfl)
            try simp only [Act.put, List.getElem_toArray, List.getElem_cons_succ, List.getElem_cons_zero, List.setIfInBounds_toArray, List.set_cons_zero, List.set_cons_succ]
            refine wpAnyH_ready (rs := [11, 12]) (by kernel_rfl) (by simp) ?_
            refine AllReadyH.cons rfl (fun K hK => ?_) (AllReadyH.cons rfl (fun K hK => ?_) (AllReadyH.nil))
            · have hz0 : (wi).heap.size = wi.heap.size := by first | rfl | simp
              have RZ9 := hid (srowN (wi) hz0 [.bool false, .int .i64 0, .int .i64 0, .string ⟨#[]⟩] 26)
              have G9 : Hid (X.heap.size ≤ wi.heap.size) := hid (by rw [← hz0]; exact B.out.size)
              have C9 : Hid (∀ bb oo, ad2 = some ⟨bb, oo, none⟩ → bb < wi.heap.size → bb ≠ wi.heap.size) := fun bb oo e h => by have := BI.out.size; omega
              replace BI := hid (below_al BI.out (.cells #[.bool false, .int .i64 0, .int .i64 0, .string ⟨#[]⟩] 26))
              replace B := hid (below_al B.out (.cells #[.bool false, .int .i64 0, .int .i64 0, .string ⟨#[]⟩] 26))
              clear hz0
              go_simp
              clear hHeld
              refine hK.out _ _ (HCE.out _ B.out) (fun hHeld => ?_)
              clear hK K
              try simp only [Act.put, List.getElem_toArray, List.getElem_cons_succ, List.getElem_cons_zero, List.setIfInBounds_toArray, List.set_cons_zero, List.set_cons_succ]
              refine wpAnyH_ready (rs := [12]) (by kernel_rfl) (by simp) ?_
              refine AllReadyH.cons rfl (fun K hK => ?_) AllReadyH.nil
              have hz0 : ((wi).alloc (.cells #[.bool false, .int .i64 0, .int .i64 0, .string ⟨#[]⟩] 26)).heap.size = wi.heap.size + 1 := by first | rfl | simp
              have RZ10 := hid (srowN ((wi).alloc (.cells #[.bool false, .int .i64 0, .int .i64 0, .string ⟨#[]⟩] 26)) hz0 [.int .i64 0, .int .i64 0, .slice none 0 0, .string ⟨#[]⟩] 35)
              have G10 : Hid (X.heap.size ≤ wi.heap.size + 1) := hid (by rw [← hz0]; exact B.out.size)
              have NN : wi.heap.size ≠ wi.heap.size + 1 := by have h2 : wi.heap.size < ((wi).alloc (.cells #[.bool false, .int .i64 0, .int .i64 0, .string ⟨#[]⟩] 26)).heap.size := RZ9.out.lt; omega
              replace RZ9 := hid (row_old RZ9.out (.cells #[.int .i64 0, .int .i64 0, .slice none 0 0, .string ⟨#[]⟩] 35))
              have C10 : Hid (∀ bb oo, ad2 = some ⟨bb, oo, none⟩ → bb < wi.heap.size → bb ≠ wi.heap.size + 1) := fun bb oo e h => by have := BI.out.size; omega
              replace BI := hid (below_al BI.out (.cells #[.int .i64 0, .int .i64 0, .slice none 0 0, .string ⟨#[]⟩] 35))
              replace B := hid (below_al B.out (.cells #[.int .i64 0, .int .i64 0, .slice none 0 0, .string ⟨#[]⟩] 35))
              clear hz0
              go_simp
              clear hHeld
              refine hK.out _ _ (HCE.out _ B.out) (fun hHeld => ?_)
              clear hK K
              try simp only [Act.put, List.getElem_toArray, List.getElem_cons_succ, List.getElem_cons_zero, List.setIfInBounds_toArray, List.set_cons_zero, List.set_cons_succ]
              have NN2 : wi.heap.size + 1 ≠ wi.heap.size := fun h => NN h.symm
              have FIN := hid (r9_fin (X := X) (⟨g1, g2, g3, g4⟩ : Ga) (⟨si, st, sm, sd⟩ : Sh) RZ9.out RZ10.out NN G9.out G10.out I2.out BI.out (fun bb oo e h => ⟨C9.out bb oo e h, C10.out bb oo e h⟩) O2.out B.out)
              have ZS1 := hid (HCE.out _ (bl_set (bl_set (bl_set (bl_set B.out G9.out 0 (.bool g1)) G9.out 1 (.int .i64 g2)) G9.out 2 (.int .i64 g3)) G9.out 3 (.string ⟨g4.toArray⟩)))
              have ZS2 := hid (HCE.out _ FIN.out.bl)
              unfold p8 at FIN ZS2
              have KK := hid (z4 (.bool g1) (.int .i64 g2) (.int .i64 g3) (.string ⟨g4.toArray⟩) RZ10.out NN)
              have c90 := RZ9.out.cellAt (o := 0) rfl
              have f90 : (((wi).alloc (.cells #[.bool false, .int .i64 0, .int .i64 0, .string ⟨#[]⟩] 26)).alloc (.cells #[.int .i64 0, .int .i64 0, .slice none 0 0, .string ⟨#[]⟩] 35)).frozen? ⟨wi.heap.size, 0, none⟩ = false := RZ9.out.frozen
              have c91 := RZ9.out.cellAt (o := 1) rfl
              have f91 : (((wi).alloc (.cells #[.bool false, .int .i64 0, .int .i64 0, .string ⟨#[]⟩] 26)).alloc (.cells #[.int .i64 0, .int .i64 0, .slice none 0 0, .string ⟨#[]⟩] 35)).frozen? ⟨wi.heap.size, 1, none⟩ = false := RZ9.out.frozen
              have c92 := RZ9.out.cellAt (o := 2) rfl
              have f92 : (((wi).alloc (.cells #[.bool false, .int .i64 0, .int .i64 0, .string ⟨#[]⟩] 26)).alloc (.cells #[.int .i64 0, .int .i64 0, .slice none 0 0, .string ⟨#[]⟩] 35)).frozen? ⟨wi.heap.size, 2, none⟩ = false := RZ9.out.frozen
              have c93 := RZ9.out.cellAt (o := 3) rfl
              have f93 : (((wi).alloc (.cells #[.bool false, .int .i64 0, .int .i64 0, .string ⟨#[]⟩] 26)).alloc (.cells #[.int .i64 0, .int .i64 0, .slice none 0 0, .string ⟨#[]⟩] 35)).frozen? ⟨wi.heap.size, 3, none⟩ = false := RZ9.out.frozen
              clear RZ9 RZ10 I2 BI C9 C10 B HCE HT
              generalize ((wi).alloc (.cells #[.bool false, .int .i64 0, .int .i64 0, .string ⟨#[]⟩] 26)).alloc (.cells #[.int .i64 0, .int .i64 0, .slice none 0 0, .string ⟨#[]⟩] 35) = Y at *
              refine wpAnyH_ready (rs := [13]) (by kernel_rfl) (by simp) ?_
              refine AllReadyH.cons rfl (fun K hK => ?_) AllReadyH.nil
              go_simp
              clear hHeld
              refine hK.out _ _ ZS1.out (fun hHeld => ?_)
              clear hK K
              try simp only [Act.put, List.getElem_toArray, List.getElem_cons_succ, List.getElem_cons_zero, List.setIfInBounds_toArray, List.set_cons_zero, List.set_cons_succ]
              clear ZS1 c90 c91 c92 c93 f90 f91 f92 f93
              generalize (((Y.setCell ⟨wi.heap.size, 0, none⟩ (.bool g1)).setCell ⟨wi.heap.size, 1, none⟩ (.int .i64 g2)).setCell ⟨wi.heap.size, 2, none⟩ (.int .i64 g3)).setCell ⟨wi.heap.size, 3, none⟩ (.string ⟨g4.toArray⟩) = Z at *
              have c100 := KK.out.cellAt (o := 0) rfl
              have f100 : Z.frozen? ⟨wi.heap.size + 1, 0, none⟩ = false := KK.out.frozen
              have c101 := KK.out.cellAt (o := 1) rfl
              have f101 : Z.frozen? ⟨wi.heap.size + 1, 1, none⟩ = false := KK.out.frozen
              have c102 := KK.out.cellAt (o := 2) rfl
              have f102 : Z.frozen? ⟨wi.heap.size + 1, 2, none⟩ = false := KK.out.frozen
              have c103 := KK.out.cellAt (o := 3) rfl
              have f103 : Z.frozen? ⟨wi.heap.size + 1, 3, none⟩ = false := KK.out.frozen
              refine wpAnyH_ready (rs := [14]) (by kernel_rfl) (by simp) ?_
              refine AllReadyH.cons rfl (fun K hK => ?_) AllReadyH.nil
              go_simp
              clear hHeld
              refine hK.out _ _ ZS2.out (fun hHeld => ?_)
              clear hK K
              try simp only [Act.put, List.getElem_toArray, List.getElem_cons_succ, List.getElem_cons_zero, List.setIfInBounds_toArray, List.set_cons_zero, List.set_cons_succ]
              clear ZS2 KK c100 c101 c102 c103 f100 f101 f102 f103
              refine wpAnyH_take (i := 15) (v := ?vv11) rfl (by kernel_rfl) (by kernel_rfl) (by kernel_rfl) (fun _ _ _ h => h) (Or.inl ⟨by rfl, ?hy11⟩) (by assumption) ?rest11
              case hy11 => (intro w hSw; (try dsimp only at hSw); go_simp; first | done | with_reducible rfl)
              try simp only [Act.put, List.getElem_toArray, List.getElem_cons_succ, List.getElem_cons_zero, List.setIfInBounds_toArray, List.set_cons_zero, List.set_cons_succ]
              refine wpAnyH_take (i := 16) (v := ?vv12) rfl (by kernel_rfl) (by kernel_rfl) (by kernel_rfl) (fun _ _ _ h => h) (Or.inl ⟨by rfl, ?hy12⟩) (by assumption) ?rest12
              case hy12 => (intro w hSw; (try dsimp only at hSw); go_simp; first | done | with_reducible rfl)
              try simp only [Act.put, List.getElem_toArray, List.getElem_cons_succ, List.getElem_cons_zero, List.setIfInBounds_toArray, List.set_cons_zero, List.set_cons_succ]
              refine wpAnyH_done (by kernel_rfl) ?_ _
              go_wp2_with fail
              go_meet
              exact ⟨_, _, ad2, cap2, rfl, rfl, rfl, rfl, FIN⟩
            · have hz0 : (wi).heap.size = wi.heap.size := by first | rfl | simp
              have RZ10 := hid (srowN (wi) hz0 [.int .i64 0, .int .i64 0, .slice none 0 0, .string ⟨#[]⟩] 35)
              have G10 : Hid (X.heap.size ≤ wi.heap.size) := hid (by rw [← hz0]; exact B.out.size)
              have C10 : Hid (∀ bb oo, ad2 = some ⟨bb, oo, none⟩ → bb < wi.heap.size → bb ≠ wi.heap.size) := fun bb oo e h => by have := BI.out.size; omega
              replace BI := hid (below_al BI.out (.cells #[.int .i64 0, .int .i64 0, .slice none 0 0, .string ⟨#[]⟩] 35))
              replace B := hid (below_al B.out (.cells #[.int .i64 0, .int .i64 0, .slice none 0 0, .string ⟨#[]⟩] 35))
              clear hz0
              go_simp
              clear hHeld
              refine hK.out _ _ (HCE.out _ B.out) (fun hHeld => ?_)
              clear hK K
              try simp only [Act.put, List.getElem_toArray, List.getElem_cons_succ, List.getElem_cons_zero, List.setIfInBounds_toArray, List.set_cons_zero, List.set_cons_succ]
              refine wpAnyH_ready (rs := [11]) (by kernel_rfl) (by simp) ?_
              refine AllReadyH.cons rfl (fun K hK => ?_) AllReadyH.nil
              have hz0 : ((wi).alloc (.cells #[.int .i64 0, .int .i64 0, .slice none 0 0, .string ⟨#[]⟩] 35)).heap.size = wi.heap.size + 1 := by first | rfl | simp
              have RZ9 := hid (srowN ((wi).alloc (.cells #[.int .i64 0, .int .i64 0, .slice none 0 0, .string ⟨#[]⟩] 35)) hz0 [.bool false, .int .i64 0, .int .i64 0, .string ⟨#[]⟩] 26)
              have G9 : Hid (X.heap.size ≤ wi.heap.size + 1) := hid (by rw [← hz0]; exact B.out.size)
              have NN : wi.heap.size + 1 ≠ wi.heap.size := by have h2 : wi.heap.size < ((wi).alloc (.cells #[.int .i64 0, .int .i64 0, .slice none 0 0, .string ⟨#[]⟩] 35)).heap.size := RZ10.out.lt; omega
              replace RZ10 := hid (row_old RZ10.out (.cells #[.bool false, .int .i64 0, .int .i64 0, .string ⟨#[]⟩] 26))
              have C9 : Hid (∀ bb oo, ad2 = some ⟨bb, oo, none⟩ → bb < wi.heap.size → bb ≠ wi.heap.size + 1) := fun bb oo e h => by have := BI.out.size; omega
              replace BI := hid (below_al BI.out (.cells #[.bool false, .int .i64 0, .int .i64 0, .string ⟨#[]⟩] 26))
              replace B := hid (below_al B.out (.cells #[.bool false, .int .i64 0, .int .i64 0, .string ⟨#[]⟩] 26))
              clear hz0
              go_simp
              clear hHeld
              refine hK.out _ _ (HCE.out _ B.out) (fun hHeld => ?_)
              clear hK K
              try simp only [Act.put, List.getElem_toArray, List.getElem_cons_succ, List.getElem_cons_zero, List.setIfInBounds_toArray, List.set_cons_zero, List.set_cons_succ]
              have NN2 : wi.heap.size ≠ wi.heap.size + 1 := fun h => NN h.symm
              have FIN := hid (r9_fin (X := X) (⟨g1, g2, g3, g4⟩ : Ga) (⟨si, st, sm, sd⟩ : Sh) RZ9.out RZ10.out NN G9.out G10.out I2.out BI.out (fun bb oo e h => ⟨C9.out bb oo e h, C10.out bb oo e h⟩) O2.out B.out)
              have ZS1 := hid (HCE.out _ (bl_set (bl_set (bl_set (bl_set B.out G9.out 0 (.bool g1)) G9.out 1 (.int .i64 g2)) G9.out 2 (.int .i64 g3)) G9.out 3 (.string ⟨g4.toArray⟩)))
              have ZS2 := hid (HCE.out _ FIN.out.bl)
              unfold p8 at FIN ZS2
              have KK := hid (z4 (.bool g1) (.int .i64 g2) (.int .i64 g3) (.string ⟨g4.toArray⟩) RZ10.out NN)
              have c90 := RZ9.out.cellAt (o := 0) rfl
              have f90 : (((wi).alloc (.cells #[.int .i64 0, .int .i64 0, .slice none 0 0, .string ⟨#[]⟩] 35)).alloc (.cells #[.bool false, .int .i64 0, .int .i64 0, .string ⟨#[]⟩] 26)).frozen? ⟨wi.heap.size + 1, 0, none⟩ = false := RZ9.out.frozen
              have c91 := RZ9.out.cellAt (o := 1) rfl
              have f91 : (((wi).alloc (.cells #[.int .i64 0, .int .i64 0, .slice none 0 0, .string ⟨#[]⟩] 35)).alloc (.cells #[.bool false, .int .i64 0, .int .i64 0, .string ⟨#[]⟩] 26)).frozen? ⟨wi.heap.size + 1, 1, none⟩ = false := RZ9.out.frozen
              have c92 := RZ9.out.cellAt (o := 2) rfl
              have f92 : (((wi).alloc (.cells #[.int .i64 0, .int .i64 0, .slice none 0 0, .string ⟨#[]⟩] 35)).alloc (.cells #[.bool false, .int .i64 0, .int .i64 0, .string ⟨#[]⟩] 26)).frozen? ⟨wi.heap.size + 1, 2, none⟩ = false := RZ9.out.frozen
              have c93 := RZ9.out.cellAt (o := 3) rfl
              have f93 : (((wi).alloc (.cells #[.int .i64 0, .int .i64 0, .slice none 0 0, .string ⟨#[]⟩] 35)).alloc (.cells #[.bool false, .int .i64 0, .int .i64 0, .string ⟨#[]⟩] 26)).frozen? ⟨wi.heap.size + 1, 3, none⟩ = false := RZ9.out.frozen
              clear RZ9 RZ10 I2 BI C9 C10 B HCE HT
              generalize ((wi).alloc (.cells #[.int .i64 0, .int .i64 0, .slice none 0 0, .string ⟨#[]⟩] 35)).alloc (.cells #[.bool false, .int .i64 0, .int .i64 0, .string ⟨#[]⟩] 26) = Y at *
              refine wpAnyH_ready (rs := [13]) (by kernel_rfl) (by simp) ?_
              refine AllReadyH.cons rfl (fun K hK => ?_) AllReadyH.nil
              go_simp
              clear hHeld
              refine hK.out _ _ ZS1.out (fun hHeld => ?_)
              clear hK K
              try simp only [Act.put, List.getElem_toArray, List.getElem_cons_succ, List.getElem_cons_zero, List.setIfInBounds_toArray, List.set_cons_zero, List.set_cons_succ]
              clear ZS1 c90 c91 c92 c93 f90 f91 f92 f93
              generalize (((Y.setCell ⟨wi.heap.size + 1, 0, none⟩ (.bool g1)).setCell ⟨wi.heap.size + 1, 1, none⟩ (.int .i64 g2)).setCell ⟨wi.heap.size + 1, 2, none⟩ (.int .i64 g3)).setCell ⟨wi.heap.size + 1, 3, none⟩ (.string ⟨g4.toArray⟩) = Z at *
              have c100 := KK.out.cellAt (o := 0) rfl
              have f100 : Z.frozen? ⟨wi.heap.size, 0, none⟩ = false := KK.out.frozen
              have c101 := KK.out.cellAt (o := 1) rfl
              have f101 : Z.frozen? ⟨wi.heap.size, 1, none⟩ = false := KK.out.frozen
              have c102 := KK.out.cellAt (o := 2) rfl
              have f102 : Z.frozen? ⟨wi.heap.size, 2, none⟩ = false := KK.out.frozen
              have c103 := KK.out.cellAt (o := 3) rfl
              have f103 : Z.frozen? ⟨wi.heap.size, 3, none⟩ = false := KK.out.frozen
              refine wpAnyH_ready (rs := [14]) (by kernel_rfl) (by simp) ?_
              refine AllReadyH.cons rfl (fun K hK => ?_) AllReadyH.nil
              go_simp
              clear hHeld
              refine hK.out _ _ ZS2.out (fun hHeld => ?_)
              clear hK K
              try simp only [Act.put, List.getElem_toArray, List.getElem_cons_succ, List.getElem_cons_zero, List.setIfInBounds_toArray, List.set_cons_zero, List.set_cons_succ]
              clear ZS2 KK c100 c101 c102 c103 f100 f101 f102 f103
              refine wpAnyH_take (i := 15) (v := ?vv13) rfl (by kernel_rfl) (by kernel_rfl) (by kernel_rfl) (fun _ _ _ h => h) (Or.inl ⟨by rfl, ?hy13⟩) (by assumption) ?rest13
              case hy13 => (intro w hSw; (try dsimp only at hSw); go_simp; first | done | with_reducible rfl)
              try simp only [Act.put, List.getElem_toArray, List.getElem_cons_succ, List.getElem_cons_zero, List.setIfInBounds_toArray, List.set_cons_zero, List.set_cons_succ]
              refine wpAnyH_take (i := 16) (v := ?vv14) rfl (by kernel_rfl) (by kernel_rfl) (by kernel_rfl) (fun _ _ _ h => h) (Or.inl ⟨by rfl, ?hy14⟩) (by assumption) ?rest14
              case hy14 => (intro w hSw; (try dsimp only at hSw); go_simp; first | done | with_reducible rfl)
              try simp only [Act.put, List.getElem_toArray, List.getElem_cons_succ, List.getElem_cons_zero, List.setIfInBounds_toArray, List.set_cons_zero, List.set_cons_succ]
              refine wpAnyH_done (by kernel_rfl) ?_ _
              go_wp2_with fail
              go_meet
              exact ⟨_, _, ad2, cap2, rfl, rfl, rfl, rfl, FIN⟩
          · have hz0 : (X.drew).heap.size = X.heap.size := by first | rfl | simp
            have RZ9 := hid (srowN (X.drew) hz0 [.bool false, .int .i64 0, .int .i64 0, .string ⟨#[]⟩] 26)
            have G9 : Hid (X.heap.size ≤ X.heap.size) := hid (by rw [← hz0]; exact B.out.size)
            replace B := hid (below_al B.out (.cells #[.bool false, .int .i64 0, .int .i64 0, .string ⟨#[]⟩] 26))
            clear hz0
            go_simp
            clear hHeld
            refine hK.out _ _ (HCE.out _ B.out) (fun hHeld => ?_)
            clear hK K
            try simp only [Act.put, List.getElem_toArray, List.getElem_cons_succ, List.getElem_cons_zero, List.setIfInBounds_toArray, List.set_cons_zero, List.set_cons_succ]
            refine wpAnyH_ready (rs := [5, 12]) (by kernel_rfl) (by simp) ?_
            refine AllReadyH.cons rfl (fun K hK => ?_) (AllReadyH.cons rfl (fun K hK => ?_) (AllReadyH.nil))
            · go_simp
              refine (HT.out ((X.drew).alloc (.cells #[.bool false, .int .i64 0, .int .i64 0, .string ⟨#[]⟩] 26))).mono ?_
              rintro e wi ⟨ad2, cap2, rfl, i2, b2, o2⟩
              have I2 := hid i2
              have O2 : Hid (∀ bb oo, ad2 = some ⟨bb, oo, none⟩ → X.heap.size ≤ bb) := fun bb oo e => Nat.le_trans B.out.size (o2 bb oo e)
              have BI : Hid (Below wi.heap.size wi wi) := Below.refl _ _
              have kb := b2.keep (fun _ => False)
              have C9 : Hid (∀ bb oo, ad2 = some ⟨bb, oo, none⟩ → bb < wi.heap.size → bb ≠ X.heap.size) := fun bb oo e h => by have h1 : ((X.drew).alloc (.cells #[.bool false, .int .i64 0, .int .i64 0, .string ⟨#[]⟩] 26)).heap.size ≤ bb := o2 bb oo e; have h2 : X.heap.size < ((X.drew).alloc (.cells #[.bool false, .int .i64 0, .int .i64 0, .string ⟨#[]⟩] 26)).heap.size := RZ9.out.lt; omega
              replace RZ9 := hid (RZ9.out.keep kb (fun h => h))
              replace B := hid (below_on B.out b2)
              clear i2 kb b2 o2
              go_wp2_with fail
              clear hHeld
              refine hK.out _ _ (HCE.out _ B.out) (fun hHeld => ?_)
              clear hK K
              try simp only [Act.put, List.getElem_toArray, List.getElem_cons_succ, List.getElem_cons_zero, List.setIfInBounds_toArray, List.set_cons_zero, List.set_cons_succ]
              refine wpAnyH_take (i := 6) (v := ?vv15) rfl (by kernel_rfl) (by kernel_rfl) (by kernel_rfl) (fun _ _ _ h => h) (Or.inl ⟨by rfl, ?hy15⟩) (by assumption) ?rest15
              case hy15 => (intro w hSw; (try dsimp only at hSw); go_simp; first | done | with_reducible rfl)
              try simp only [Act.put, List.getElem_toArray, List.getElem_cons_succ, List.getElem_cons_zero, List.setIfInBounds_toArray, List.set_cons_zero, List.set_cons_succ]
              refine wpAnyH_take (i := 7) (v := ?vv16) rfl (by kernel_rfl) (by kernel_rfl) (by kernel_rfl) (fun _ _ _ h => h) (Or.inl ⟨by rfl, ?hy16⟩) (by assumption) ?rest16
              case hy16 => (intro w hSw; (try dsimp only at hSw); go_simp; first | done | with_reducible rfl)
              try simp only [Act.put, List.getElem_toArray, List.getElem_cons_succ, List.getElem_cons_zero, List.setIfInBounds_toArray, List.set_cons_zero, List.set_cons_succ]
              refine wpAnyH_take (i := 8) (v := ?vv17) rfl (by kernel_rfl) (by kernel_rfl) (by kernel_rfl) (fun _ _ _ h => h) (Or.inl ⟨by rfl, ?hy17⟩) (by assumption) ?rest17
              case hy17 => (intro w hSw; (try dsimp only at hSw); go_simp; first | done | with_reducible rfl)
              try simp only [Act.put, List.getElem_toArray, List.getElem_cons_succ, List.getElem_cons_zero, List.setIfInBounds_toArray, List.set_cons_zero, List.set_cons_succ]
              refine wpAnyH_take (i := 9) (v := ?vv18) rfl (by kernel_rfl) (by kernel_rfl) (by kernel_rfl) (fun _ _ _ h => h) (Or.inl ⟨by rfl, ?hy18⟩) (by assumption) ?rest18
              case hy18 => (intro w hSw; (try dsimp only at hSw); go_simp; first | done | with_reducible rfl)
              try simp only [Act.put, List.getElem_toArray, List.getElem_cons_succ, List.getElem_cons_zero, List.setIfInBounds_toArray, List.set_cons_zero, List.set_cons_succ]
              refine wpAnyH_take (i := 10) (v := ?vv19) rfl (by kernel_rfl) (by kernel_rfl) (by kernel_rfl) (fun _ _ _ h => h) (Or.inl ⟨by rfl, ?hy19⟩) (by assumption) ?rest19
              case hy19 => (intro w hSw; (try dsimp only at hSw); go_simp; first | done | with_reducible rfl)
              try simp only [Act.put, List.getElem_toArray, List.getElem_cons_succ, List.getElem_cons_zero, List.setIfInBounds_toArray, List.set_cons_zero, List.set_cons_succ]
              refine wpAnyH_ready (rs := [12]) (by kernel_rfl) (by simp) ?_
              refine AllReadyH.cons rfl (fun K hK => ?_) AllReadyH.nil
              have hz0 : (wi).heap.size = wi.heap.size := by first | rfl | simp
              have RZ10 := hid (srowN (wi) hz0 [.int .i64 0, .int .i64 0, .slice none 0 0, .string ⟨#[]⟩] 35)
              have G10 : Hid (X.heap.size ≤ wi.heap.size) := hid (by rw [← hz0]; exact B.out.size)
              have NN : X.heap.size ≠ wi.heap.size := by have h2 : X.heap.size < (wi).heap.size := RZ9.out.lt; omega
              replace RZ9 := hid (row_old RZ9.out (.cells #[.int .i64 0, .int .i64 0, .slice none 0 0, .string ⟨#[]⟩] 35))
              have C10 : Hid (∀ bb oo, ad2 = some ⟨bb, oo, none⟩ → bb < wi.heap.size → bb ≠ wi.heap.size) := fun bb oo e h => by have := BI.out.size; omega
              replace BI := hid (below_al BI.out (.cells #[.int .i64 0, .int .i64 0, .slice none 0 0, .string ⟨#[]⟩] 35))
              replace B := hid (below_al B.out (.cells #[.int .i64 0, .int .i64 0, .slice none 0 0, .string ⟨#[]⟩] 35))
              clear hz0
              go_simp
              clear hHeld
              refine hK.out _ _ (HCE.out _ B.out) (fun hHeld => ?_)
              clear hK K
              try simp only [Act.put, List.getElem_toArray, List.getElem_cons_succ, List.getElem_cons_zero, List.setIfInBounds_toArray, List.set_cons_zero, List.set_cons_succ]
              have NN2 : wi.heap.size ≠ X.heap.size := fun h => NN h.symm
              have FIN := hid (r9_fin (X := X) (⟨g1, g2, g3, g4⟩ : Ga) (⟨si, st, sm, sd⟩ : Sh) RZ9.out RZ10.out NN G9.out G10.out I2.out BI.out (fun bb oo e h => ⟨C9.out bb oo e h, C10.out bb oo e h⟩) O2.out B.out)
              have ZS1 := hid (HCE.out _ (bl_set (bl_set (bl_set (bl_set B.out G9.out 0 (.bool g1)) G9.out 1 (.int .i64 g2)) G9.out 2 (.int .i64 g3)) G9.out 3 (.string ⟨g4.toArray⟩)))
              have ZS2 := hid (HCE.out _ FIN.out.bl)
              unfold p8 at FIN ZS2
              have KK := hid (z4 (.bool g1) (.int .i64 g2) (.int .i64 g3) (.string ⟨g4.toArray⟩) RZ10.out NN)
              have c90 := RZ9.out.cellAt (o := 0) rfl
              have f90 : ((wi).alloc (.cells #[.int .i64 0, .int .i64 0, .slice none 0 0, .string ⟨#[]⟩] 35)).frozen? ⟨X.heap.size, 0, none⟩ = false := RZ9.out.frozen
              have c91 := RZ9.out.cellAt (o := 1) rfl
              have f91 : ((wi).alloc (.cells #[.int .i64 0, .int .i64 0, .slice none 0 0, .string ⟨#[]⟩] 35)).frozen? ⟨X.heap.size, 1, none⟩ = false := RZ9.out.frozen
              have c92 := RZ9.out.cellAt (o := 2) rfl
              have f92 : ((wi).alloc (.cells #[.int .i64 0, .int .i64 0, .slice none 0 0, .string ⟨#[]⟩] 35)).frozen? ⟨X.heap.size, 2, none⟩ = false := RZ9.out.frozen
              have c93 := RZ9.out.cellAt (o := 3) rfl
              have f93 : ((wi).alloc (.cells #[.int .i64 0, .int .i64 0, .slice none 0 0, .string ⟨#[]⟩] 35)).frozen? ⟨X.heap.size, 3, none⟩ = false := RZ9.out.frozen
              clear RZ9 RZ10 I2 BI C9 C10 B HCE HT
              generalize (wi).alloc (.cells #[.int .i64 0, .int .i64 0, .slice none 0 0, .string ⟨#[]⟩] 35) = Y at *
              refine wpAnyH_ready (rs := [13]) (by kernel_rfl) (by simp) ?_
              refine AllReadyH.cons rfl (fun K hK => ?_) AllReadyH.nil
              go_simp
              clear hHeld
              refine hK.out _ _ ZS1.out (fun hHeld => ?_)
              clear hK K
              try simp only [Act.put, List.getElem_toArray, List.getElem_cons_succ, List.getElem_cons_zero, List.setIfInBounds_toArray, List.set_cons_zero, List.set_cons_succ]
              clear ZS1 c90 c91 c92 c93 f90 f91 f92 f93
              generalize (((Y.setCell ⟨X.heap.size, 0, none⟩ (.bool g1)).setCell ⟨X.heap.size, 1, none⟩ (.int .i64 g2)).setCell ⟨X.heap.size, 2, none⟩ (.int .i64 g3)).setCell ⟨X.heap.size, 3, none⟩ (.string ⟨g4.toArray⟩) = Z at *
              have c100 := KK.out.cellAt (o := 0) rfl
              have f100 : Z.frozen? ⟨wi.heap.size, 0, none⟩ = false := KK.out.frozen
              have c101 := KK.out.cellAt (o := 1) rfl
              have f101 : Z.frozen? ⟨wi.heap.size, 1, none⟩ = false := KK.out.frozen
              have c102 := KK.out.cellAt (o := 2) rfl
              have f102 : Z.frozen? ⟨wi.heap.size, 2, none⟩ = false := KK.out.frozen
              have c103 := KK.out.cellAt (o := 3) rfl
              have f103 : Z.frozen? ⟨wi.heap.size, 3, none⟩ = false := KK.out.frozen
              refine wpAnyH_ready (rs := [14]) (by kernel_rfl) (by simp) ?_
              refine AllReadyH.cons rfl (fun K hK => ?_) AllReadyH.nil
              go_simp
              clear hHeld
              refine hK.out _ _ ZS2.out (fun hHeld => ?_)
              clear hK K
              try simp only [Act.put, List.getElem_toArray, List.getElem_cons_succ, List.getElem_cons_zero, List.setIfInBounds_toArray, List.set_cons_zero, List.set_cons_succ]
              clear ZS2 KK c100 c101 c102 c103 f100 f101 f102 f103
              refine wpAnyH_take (i := 15) (v := ?vv20) rfl (by kernel_rfl) (by kernel_rfl) (by kernel_rfl) (fun _ _ _ h => h) (Or.inl ⟨by rfl, ?hy20⟩) (by assumption) ?rest20
              case hy20 => (intro w hSw; (try dsimp only at hSw); go_simp; first | done | with_reducible rfl)
              try simp only [Act.put, List.getElem_toArray, List.getElem_cons_succ, List.getElem_cons_zero, List.setIfInBounds_toArray, List.set_cons_zero, List.set_cons_succ]
              refine wpAnyH_take (i := 16) (v := ?vv21) rfl (by kernel_rfl) (by kernel_rfl) (by kernel_rfl) (fun _ _ _ h => h) (Or.inl ⟨by rfl, ?hy21⟩) (by assumption) ?rest21
              case hy21 => (intro w hSw; (try dsimp only at hSw); go_simp; first | done | with_reducible rfl)
              try simp only [Act.put, List.getElem_toArray, List.getElem_cons_succ, List.getElem_cons_zero, List.setIfInBounds_toArray, List.set_cons_zero, List.set_cons_succ]
              refine wpAnyH_done (by kernel_rfl) ?_ _
              go_wp2_with fail
              go_meet
              exact ⟨_, _, ad2, cap2, rfl, rfl, rfl, rfl, FIN⟩
            · have hz0 : ((X.drew).alloc (.cells #[.bool false, .int .i64 0, .int .i64 0, .string ⟨#[]⟩] 26)).heap.size = X.heap.size + 1 := by first | rfl | simp
              have RZ10 := hid (srowN ((X.drew).alloc (.cells #[.bool false, .int .i64 0, .int .i64 0, .string ⟨#[]⟩] 26)) hz0 [.int .i64 0, .int .i64 0, .slice none 0 0, .string ⟨#[]⟩] 35)
              have G10 : Hid (X.heap.size ≤ X.heap.size + 1) := hid (by rw [← hz0]; exact B.out.size)
              have NN : X.heap.size ≠ X.heap.size + 1 := by have h2 : X.heap.size < ((X.drew).alloc (.cells #[.bool false, .int .i64 0, .int .i64 0, .string ⟨#[]⟩] 26)).heap.size := RZ9.out.lt; omega
              replace RZ9 := hid (row_old RZ9.out (.cells #[.int .i64 0, .int .i64 0, .slice none 0 0, .string ⟨#[]⟩] 35))
              replace B := hid (below_al B.out (.cells #[.int .i64 0, .int .i64 0, .slice none 0 0, .string ⟨#[]⟩] 35))
              clear hz0
              go_simp
              clear hHeld
              refine hK.out _ _ (HCE.out _ B.out) (fun hHeld => ?_)
              clear hK K
              try simp only [Act.put, List.getElem_toArray, List.getElem_cons_succ, List.getElem_cons_zero, List.setIfInBounds_toArray, List.set_cons_zero, List.set_cons_succ]
              refine wpAnyH_ready (rs := [5]) (by kernel_rfl) (by simp) ?_
              refine AllReadyH.cons rfl (fun K hK => ?_) AllReadyH.nil
              go_simp
              refine (HT.out (((X.drew).alloc (.cells #[.bool false, .int .i64 0, .int .i64 0, .string ⟨#[]⟩] 26)).alloc (.cells #[.int .i64 0, .int .i64 0, .slice none 0 0, .string ⟨#[]⟩] 35))).mono ?_
              rintro e wi ⟨ad2, cap2, rfl, i2, b2, o2⟩
              have I2 := hid i2
              have O2 : Hid (∀ bb oo, ad2 = some ⟨bb, oo, none⟩ → X.heap.size ≤ bb) := fun bb oo e => Nat.le_trans B.out.size (o2 bb oo e)
              have BI : Hid (Below wi.heap.size wi wi) := Below.refl _ _
              have kb := b2.keep (fun _ => False)
              have C9 : Hid (∀ bb oo, ad2 = some ⟨bb, oo, none⟩ → bb < wi.heap.size → bb ≠ X.heap.size) := fun bb oo e h => by have h1 : (((X.drew).alloc (.cells #[.bool false, .int .i64 0, .int .i64 0, .string ⟨#[]⟩] 26)).alloc (.cells #[.int .i64 0, .int .i64 0, .slice none 0 0, .string ⟨#[]⟩] 35)).heap.size ≤ bb := o2 bb oo e; have h2 : X.heap.size < (((X.drew).alloc (.cells #[.bool false, .int .i64 0, .int .i64 0, .string ⟨#[]⟩] 26)).alloc (.cells #[.int .i64 0, .int .i64 0, .slice none 0 0, .string ⟨#[]⟩] 35)).heap.size := RZ9.out.lt; omega
              replace RZ9 := hid (RZ9.out.keep kb (fun h => h))
              have C10 : Hid (∀ bb oo, ad2 = some ⟨bb, oo, none⟩ → bb < wi.heap.size → bb ≠ X.heap.size + 1) := fun bb oo e h => by have h1 : (((X.drew).alloc (.cells #[.bool false, .int .i64 0, .int .i64 0, .string ⟨#[]⟩] 26)).alloc (.cells #[.int .i64 0, .int .i64 0, .slice none 0 0, .string ⟨#[]⟩] 35)).heap.size ≤ bb := o2 bb oo e; have h2 : X.heap.size + 1 < (((X.drew).alloc (.cells #[.bool false, .int .i64 0, .int .i64 0, .string ⟨#[]⟩] 26)).alloc (.cells #[.int .i64 0, .int .i64 0, .slice none 0 0, .string ⟨#[]⟩] 35)).heap.size := RZ10.out.lt; omega
              replace RZ10 := hid (RZ10.out.keep kb (fun h => h))
              replace B := hid (below_on B.out b2)
              clear i2 kb b2 o2
              go_wp2_with fail
              clear hHeld
              refine hK.out _ _ (HCE.out _ B.out) (fun hHeld => ?_)
              clear hK K
              try simp only [Act.put, List.getElem_toArray, List.getElem_cons_succ, List.getElem_cons_zero, List.setIfInBounds_toArray, List.set_cons_zero, List.set_cons_succ]
              refine wpAnyH_take (i := 6) (v := ?vv22) rfl (by kernel_rfl) (by kernel_rfl) (by kernel_rfl) (fun _ _ _ h => h) (Or.inl ⟨by rfl, ?hy22⟩) (by assumption) ?rest22
              case hy22 => (intro w hSw; (try dsimp only at hSw); go_simp; first | done | with_reducible rfl)
              try simp only [Act.put, List.getElem_toArray, List.getElem_cons_succ, List.getElem_cons_zero, List.setIfInBounds_toArray, List.set_cons_zero, List.set_cons_succ]
              refine wpAnyH_take (i := 7) (v := ?vv23) rfl (by kernel_rfl) (by kernel_rfl) (by kernel_rfl) (fun _ _ _ h => h) (Or.inl ⟨by rfl, ?hy23⟩) (by assumption) ?rest23
              case hy23 => (intro w hSw; (try dsimp only at hSw); go_simp; first | done | with_reducible rfl)
              try simp only [Act.put, List.getElem_toArray, List.getElem_cons_succ, List.getElem_cons_zero, List.setIfInBounds_toArray, List.set_cons_zero, List.set_cons_succ]
              refine wpAnyH_take (i := 8) (v := ?vv24) rfl (by kernel_rfl) (by kernel_rfl) (by kernel_rfl) (fun _ _ _ h => h) (Or.inl ⟨by rfl, ?hy24⟩) (by assumption) ?rest24
              case hy24 => (intro w hSw; (try dsimp only at hSw); go_simp; first | done | with_reducible rfl)
              try simp only [Act.put, List.getElem_toArray, List.getElem_cons_succ, List.getElem_cons_zero, List.setIfInBounds_toArray, List.set_cons_zero, List.set_cons_succ]
              refine wpAnyH_take (i := 9) (v := ?vv25) rfl (by kernel_rfl) (by kernel_rfl) (by kernel_rfl) (fun _ _ _ h => h) (Or.inl ⟨by rfl, ?hy25⟩) (by assumption) ?rest25
              case hy25 => (intro w hSw; (try dsimp only at hSw); go_simp; first | done | with_reducible rfl)
              try simp only [Act.put, List.getElem_toArray, List.getElem_cons_succ, List.getElem_cons_zero, List.setIfInBounds_toArray, List.set_cons_zero, List.set_cons_succ]
              refine wpAnyH_take (i := 10) (v := ?vv26) rfl (by kernel_rfl) (by kernel_rfl) (by kernel_rfl) (fun _ _ _ h => h) (Or.inl ⟨by rfl, ?hy26⟩) (by assumption) ?rest26
              case hy26 => (intro w hSw; (try dsimp only at hSw); go_simp; first | done | with_reducible rfl)
              try simp only [Act.put, List.getElem_toArray, List.getElem_cons_succ, List.getElem_cons_zero, List.setIfInBounds_toArray, List.set_cons_zero, List.set_cons_succ]
              have NN2 : X.heap.size + 1 ≠ X.heap.size := fun h => NN h.symm
              have FIN := hid (r9_fin (X := X) (⟨g1, g2, g3, g4⟩ : Ga) (⟨si, st, sm, sd⟩ : Sh) RZ9.out RZ10.out NN G9.out G10.out I2.out BI.out (fun bb oo e h => ⟨C9.out bb oo e h, C10.out bb oo e h⟩) O2.out B.out)
              have ZS1 := hid (HCE.out _ (bl_set (bl_set (bl_set (bl_set B.out G9.out 0 (.bool g1)) G9.out 1 (.int .i64 g2)) G9.out 2 (.int .i64 g3)) G9.out 3 (.string ⟨g4.toArray⟩)))
              have ZS2 := hid (HCE.out _ FIN.out.bl)
              unfold p8 at FIN ZS2
              have KK := hid (z4 (.bool g1) (.int .i64 g2) (.int .i64 g3) (.string ⟨g4.toArray⟩) RZ10.out NN)
              have c90 := RZ9.out.cellAt (o := 0) rfl
              have f90 : (wi).frozen? ⟨X.heap.size, 0, none⟩ = false := RZ9.out.frozen
              have c91 := RZ9.out.cellAt (o := 1) rfl
              have f91 : (wi).frozen? ⟨X.heap.size, 1, none⟩ = false := RZ9.out.frozen
              have c92 := RZ9.out.cellAt (o := 2) rfl
              have f92 : (wi).frozen? ⟨X.heap.size, 2, none⟩ = false := RZ9.out.frozen
              have c93 := RZ9.out.cellAt (o := 3) rfl
              have f93 : (wi).frozen? ⟨X.heap.size, 3, none⟩ = false := RZ9.out.frozen
              clear RZ9 RZ10 I2 BI C9 C10 B HCE HT
              generalize wi = Y at *
              refine wpAnyH_ready (rs := [13]) (by kernel_rfl) (by simp) ?_
              refine AllReadyH.cons rfl (fun K hK => ?_) AllReadyH.nil
              go_simp
              clear hHeld
              refine hK.out _ _ ZS1.out (fun hHeld => ?_)
              clear hK K
              try simp only [Act.put, List.getElem_toArray, List.getElem_cons_succ, List.getElem_cons_zero, List.setIfInBounds_toArray, List.set_cons_zero, List.set_cons_succ]
              clear ZS1 c90 c91 c92 c93 f90 f91 f92 f93
              generalize (((Y.setCell ⟨X.heap.size, 0, none⟩ (.bool g1)).setCell ⟨X.heap.size, 1, none⟩ (.int .i64 g2)).setCell ⟨X.heap.size, 2, none⟩ (.int .i64 g3)).setCell ⟨X.heap.size, 3, none⟩ (.string ⟨g4.toArray⟩) = Z at *
              have c100 := KK.out.cellAt (o := 0) rfl
              have f100 : Z.frozen? ⟨X.heap.size + 1, 0, none⟩ = false := KK.out.frozen
              have c101 := KK.out.cellAt (o := 1) rfl
              have f101 : Z.frozen? ⟨X.heap.size + 1, 1, none⟩ = false := KK.out.frozen
              have c102 := KK.out.cellAt (o := 2) rfl
              have f102 : Z.frozen? ⟨X.heap.size + 1, 2, none⟩ = false := KK.out.frozen
              have c103 := KK.out.cellAt (o := 3) rfl
              have f103 : Z.frozen? ⟨X.heap.size + 1, 3, none⟩ = false := KK.out.frozen
              refine wpAnyH_ready (rs := [14]) (by kernel_rfl) (by simp) ?_
              refine AllReadyH.cons rfl (fun K hK => ?_) AllReadyH.nil
              go_simp
              clear hHeld
              refine hK.out _ _ ZS2.out (fun hHeld => ?_)
              clear hK K
              try simp only [Act.put, List.getElem_toArray, List.getElem_cons_succ, List.getElem_cons_zero, List.setIfInBounds_toArray, List.set_cons_zero, List.set_cons_succ]
              clear ZS2 KK c100 c101 c102 c103 f100 f101 f102 f103
              refine wpAnyH_take (i := 15) (v := ?vv27) rfl (by kernel_rfl) (by kernel_rfl) (by kernel_rfl) (fun _ _ _ h => h) (Or.inl ⟨by rfl, ?hy27⟩) (by assumption) ?rest27
              case hy27 => (intro w hSw; (try dsimp only at hSw); go_simp; first | done | with_reducible rfl)
              try simp only [Act.put, List.getElem_toArray, List.getElem_cons_succ, List.getElem_cons_zero, List.setIfInBounds_toArray, List.set_cons_zero, List.set_cons_succ]
              refine wpAnyH_take (i := 16) (v := ?vv28) rfl (by kernel_rfl) (by kernel_rfl) (by kernel_rfl) (fun _ _ _ h => h) (Or.inl ⟨by rfl, ?hy28⟩) (by assumption) ?rest28
              case hy28 => (intro w hSw; (try dsimp only at hSw); go_simp; first | done | with_reducible rfl)
              try simp only [Act.put, List.getElem_toArray, List.getElem_cons_succ, List.getElem_cons_zero, List.setIfInBounds_toArray, List.set_cons_zero, List.set_cons_succ]
              refine wpAnyH_done (by kernel_rfl) ?_ _
              go_wp2_with fail
              go_meet
              exact ⟨_, _, ad2, cap2, rfl, rfl, rfl, rfl, FIN⟩
          · have hz0 : (X.drew).heap.size = X.heap.size := by first | rfl | simp
            have RZ10 := hid (srowN (X.drew) hz0 [.int .i64 0, .int .i64 0, .slice none 0 0, .string ⟨#[]⟩] 35)
            have G10 : Hid (X.heap.size ≤ X.heap.size) := hid (by rw [← hz0]; exact B.out.size)
            replace B := hid (below_al B.out (.cells #[.int .i64 0, .int .i64 0, .slice none 0 0, .string ⟨#[]⟩] 35))
            clear hz0
            go_simp
            clear hHeld
            refine hK.out _ _ (HCE.out _ B.out) (fun hHeld => ?_)
            clear hK K
            try simp only [Act.put, List.getElem_toArray, List.getElem_cons_succ, List.getElem_cons_zero, List.setIfInBounds_toArray, List.set_cons_zero, List.set_cons_succ]
            refine wpAnyH_ready (rs := [5, 11]) (by kernel_rfl) (by simp) ?_
            refine AllReadyH.cons rfl (fun K hK => ?_) (AllReadyH.cons rfl (fun K hK => ?_) (AllReadyH.nil))
            · go_simp
              refine (HT.out ((X.drew).alloc (.cells #[.int .i64 0, .int .i64 0, .slice none 0 0, .string ⟨#[]⟩] 35))).mono ?_
              rintro e wi ⟨ad2, cap2, rfl, i2, b2, o2⟩
              have I2 := hid i2
              have O2 : Hid (∀ bb oo, ad2 = some ⟨bb, oo, none⟩ → X.heap.size ≤ bb) := fun bb oo e => Nat.le_trans B.out.size (o2 bb oo e)
              have BI : Hid (Below wi.heap.size wi wi) := Below.refl _ _
              have kb := b2.keep (fun _ => False)
              have C10 : Hid (∀ bb oo, ad2 = some ⟨bb, oo, none⟩ → bb < wi.heap.size → bb ≠ X.heap.size) := fun bb oo e h => by have h1 : ((X.drew).alloc (.cells #[.int .i64 0, .int .i64 0, .slice none 0 0, .string ⟨#[]⟩] 35)).heap.size ≤ bb := o2 bb oo e; have h2 : X.heap.size < ((X.drew).alloc (.cells #[.int .i64 0, .int .i64 0, .slice none 0 0, .string ⟨#[]⟩] 35)).heap.size := RZ10.out.lt; omega
              replace RZ10 := hid (RZ10.out.keep kb (fun h => h))
              replace B := hid (below_on B.out b2)
              clear i2 kb b2 o2
              go_wp2_with fail
              clear hHeld
              refine hK.out _ _ (HCE.out _ B.out) (fun hHeld => ?_)
              clear hK K
              try simp only [Act.put, List.getElem_toArray, List.getElem_cons_succ, List.getElem_cons_zero, List.setIfInBounds_toArray, List.set_cons_zero, List.set_cons_succ]
              refine wpAnyH_take (i := 6) (v := ?vv29) rfl (by kernel_rfl) (by kernel_rfl) (by kernel_rfl) (fun _ _ _ h => h) (Or.inl ⟨by rfl, ?hy29⟩) (by assumption) ?rest29
              case hy29 => (intro w hSw; (try dsimp only at hSw); go_simp; first | done | with_reducible rfl)
              try simp only [Act.put, List.getElem_toArray, List.getElem_cons_succ, List.getElem_cons_zero, List.setIfInBounds_toArray, List.set_cons_zero, List.set_cons_succ]
              refine wpAnyH_take (i := 7) (v := ?vv30) rfl (by kernel_rfl) (by kernel_rfl) (by kernel_rfl) (fun _ _ _ h => h) (Or.inl ⟨by rfl, ?hy30⟩) (by assumption) ?rest30
              case hy30 => (intro w hSw; (try dsimp only at hSw); go_simp; first | done | with_reducible rfl)
              try simp only [Act.put, List.getElem_toArray, List.getElem_cons_succ, List.getElem_cons_zero, List.setIfInBounds_toArray, List.set_cons_zero, List.set_cons_succ]
              refine wpAnyH_take (i := 8) (v := ?vv31) rfl (by kernel_rfl) (by kernel_rfl) (by kernel_rfl) (fun _ _ _ h => h) (Or.inl ⟨by rfl, ?hy31⟩) (by assumption) ?rest31
              case hy31 => (intro w hSw; (try dsimp only at hSw); go_simp; first | done | with_reducible rfl)
              try simp only [Act.put, List.getElem_toArray, List.getElem_cons_succ, List.getElem_cons_zero, List.setIfInBounds_toArray, List.set_cons_zero, List.set_cons_succ]
              refine wpAnyH_take (i := 9) (v := ?vv32) rfl (by kernel_rfl) (by kernel_rfl) (by kernel_rfl) (fun _ _ _ h => h) (Or.inl ⟨by rfl, ?hy32⟩) (by assumption) ?rest32
              case hy32 => (intro w hSw; (try dsimp only at hSw); go_simp; first | done | with_reducible rfl)
              try simp only [Act.put, List.getElem_toArray, List.getElem_cons_succ, List.getElem_cons_zero, List.setIfInBounds_toArray, List.set_cons_zero, List.set_cons_succ]
              refine wpAnyH_take (i := 10) (v := ?vv33) rfl (by kernel_rfl) (by kernel_rfl) (by kernel_rfl) (fun _ _ _ h => h) (Or.inl ⟨by rfl, ?hy33⟩) (by assumption) ?rest33
              case hy33 => (intro w hSw; (try dsimp only at hSw); go_simp; first | done | with_reducible rfl)
              try simp only [Act.put, List.getElem_toArray, List.getElem_cons_succ, List.getElem_cons_zero, List.setIfInBounds_toArray, List.set_cons_zero, List.set_cons_succ]
              refine wpAnyH_ready (rs := [11]) (by kernel_rfl) (by simp) ?_
              refine AllReadyH.cons rfl (fun K hK => ?_) AllReadyH.nil
              have hz0 : (wi).heap.size = wi.heap.size := by first | rfl | simp
              have RZ9 := hid (srowN (wi) hz0 [.bool false, .int .i64 0, .int .i64 0, .string ⟨#[]⟩] 26)
              have G9 : Hid (X.heap.size ≤ wi.heap.size) := hid (by rw [← hz0]; exact B.out.size)
              have NN : wi.heap.size ≠ X.heap.size := by have h2 : X.heap.size < (wi).heap.size := RZ10.out.lt; omega
              replace RZ10 := hid (row_old RZ10.out (.cells #[.bool false, .int .i64 0, .int .i64 0, .string ⟨#[]⟩] 26))
              have C9 : Hid (∀ bb oo, ad2 = some ⟨bb, oo, none⟩ → bb < wi.heap.size → bb ≠ wi.heap.size) := fun bb oo e h => by have := BI.out.size; omega
              replace BI := hid (below_al BI.out (.cells #[.bool false, .int .i64 0, .int .i64 0, .string ⟨#[]⟩] 26))
              replace B := hid (below_al B.out (.cells #[.bool false, .int .i64 0, .int .i64 0, .string ⟨#[]⟩] 26))
              clear hz0
              go_simp
              clear hHeld
              refine hK.out _ _ (HCE.out _ B.out) (fun hHeld => ?_)
              clear hK K
              try simp only [Act.put, List.getElem_toArray, List.getElem_cons_succ, List.getElem_cons_zero, List.setIfInBounds_toArray, List.set_cons_zero, List.set_cons_succ]
              have NN2 : X.heap.size ≠ wi.heap.size := fun h => NN h.symm
              have FIN := hid (r9_fin (X := X) (⟨g1, g2, g3, g4⟩ : Ga) (⟨si, st, sm, sd⟩ : Sh) RZ9.out RZ10.out NN G9.out G10.out I2.out BI.out (fun bb oo e h => ⟨C9.out bb oo e h, C10.out bb oo e h⟩) O2.out B.out)
              have ZS1 := hid (HCE.out _ (bl_set (bl_set (bl_set (bl_set B.out G9.out 0 (.bool g1)) G9.out 1 (.int .i64 g2)) G9.out 2 (.int .i64 g3)) G9.out 3 (.string ⟨g4.toArray⟩)))
              have ZS2 := hid (HCE.out _ FIN.out.bl)
              unfold p8 at FIN ZS2
              have KK := hid (z4 (.bool g1) (.int .i64 g2) (.int .i64 g3) (.string ⟨g4.toArray⟩) RZ10.out NN)
              have c90 := RZ9.out.cellAt (o := 0) rfl
              have f90 : ((wi).alloc (.cells #[.bool false, .int .i64 0, .int .i64 0, .string ⟨#[]⟩] 26)).frozen? ⟨wi.heap.size, 0, none⟩ = false := RZ9.out.frozen
              have c91 := RZ9.out.cellAt (o := 1) rfl
              have f91 : ((wi).alloc (.cells #[.bool false, .int .i64 0, .int .i64 0, .string ⟨#[]⟩] 26)).frozen? ⟨wi.heap.size, 1, none⟩ = false := RZ9.out.frozen
              have c92 := RZ9.out.cellAt (o := 2) rfl
              have f92 : ((wi).alloc (.cells #[.bool false, .int .i64 0, .int .i64 0, .string ⟨#[]⟩] 26)).frozen? ⟨wi.heap.size, 2, none⟩ = false := RZ9.out.frozen
              have c93 := RZ9.out.cellAt (o := 3) rfl
              have f93 : ((wi).alloc (.cells #[.bool false, .int .i64 0, .int .i64 0, .string ⟨#[]⟩] 26)).frozen? ⟨wi.heap.size, 3, none⟩ = false := RZ9.out.frozen
              clear RZ9 RZ10 I2 BI C9 C10 B HCE HT
              generalize (wi).alloc (.cells #[.bool false, .int .i64 0, .int .i64 0, .string ⟨#[]⟩] 26) = Y at *
              refine wpAnyH_ready (rs := [13]) (by kernel_rfl) (by simp) ?_
              refine AllReadyH.cons rfl (fun K hK => ?_) AllReadyH.nil
              go_simp
              clear hHeld
              refine hK.out _ _ ZS1.out (fun hHeld => ?_)
              clear hK K
              try simp only [Act.put, List.getElem_toArray, List.getElem_cons_succ, List.getElem_cons_zero, List.setIfInBounds_toArray, List.set_cons_zero, List.set_cons_succ]
              clear ZS1 c90 c91 c92 c93 f90 f91 f92 f93
              generalize (((Y.setCell ⟨wi.heap.size, 0, none⟩ (.bool g1)).setCell ⟨wi.heap.size, 1, none⟩ (.int .i64 g2)).setCell ⟨wi.heap.size, 2, none⟩ (.int .i64 g3)).setCell ⟨wi.heap.size, 3, none⟩ (.string ⟨g4.toArray⟩) = Z at *
              have c100 := KK.out.cellAt (o := 0) rfl
              have f100 : Z.frozen? ⟨X.heap.size, 0, none⟩ = false := KK.out.frozen
              have c101 := KK.out.cellAt (o := 1) rfl
              have f101 : Z.frozen? ⟨X.heap.size, 1, none⟩ = false := KK.out.frozen
              have c102 := KK.out.cellAt (o := 2) rfl
              have f102 : Z.frozen? ⟨X.heap.size, 2, none⟩ = false := KK.out.frozen
              have c103 := KK.out.cellAt (o := 3) rfl
              have f103 : Z.frozen? ⟨X.heap.size, 3, none⟩ = false := KK.out.frozen
              refine wpAnyH_ready (rs := [14]) (by kernel_rfl) (by simp) ?_
              refine AllReadyH.cons rfl (fun K hK => ?_) AllReadyH.nil
              go_simp
              clear hHeld
              refine hK.out _ _ ZS2.out (fun hHeld => ?_)
              clear hK K
              try simp only [Act.put, List.getElem_toArray, List.getElem_cons_succ, List.getElem_cons_zero, List.setIfInBounds_toArray, List.set_cons_zero, List.set_cons_succ]
              clear ZS2 KK c100 c101 c102 c103 f100 f101 f102 f103
              refine wpAnyH_take (i := 15) (v := ?vv34) rfl (by kernel_rfl) (by kernel_rfl) (by kernel_rfl) (fun _ _ _ h => h) (Or.inl ⟨by rfl, ?hy34⟩) (by assumption) ?rest34
              case hy34 => (intro w hSw; (try dsimp only at hSw); go_simp; first | done | with_reducible rfl)
              try simp only [Act.put, List.getElem_toArray, List.getElem_cons_succ, List.getElem_cons_zero, List.setIfInBounds_toArray, List.set_cons_zero, List.set_cons_succ]
              refine wpAnyH_take (i := 16) (v := ?vv35) rfl (by kernel_rfl) (by kernel_rfl) (by kernel_rfl) (fun _ _ _ h => h) (Or.inl ⟨by rfl, ?hy35⟩) (by assumption) ?rest35
              case hy35 => (intro w hSw; (try dsimp only at hSw); go_simp; first | done | with_reducible rfl)
              try simp only [Act.put, List.getElem_toArray, List.getElem_cons_succ, List.getElem_cons_zero, List.setIfInBounds_toArray, List.set_cons_zero, List.set_cons_succ]
              refine wpAnyH_done (by kernel_rfl) ?_ _
              go_wp2_with fail
              go_meet
              exact ⟨_, _, ad2, cap2, rfl, rfl, rfl, rfl, FIN⟩
            · have hz0 : ((X.drew).alloc (.cells #[.int .i64 0, .int .i64 0, .slice none 0 0, .string ⟨#[]⟩] 35)).heap.size = X.heap.size + 1 := by first | rfl | simp
              have RZ9 := hid (srowN ((X.drew).alloc (.cells #[.int .i64 0, .int .i64 0, .slice none 0 0, .string ⟨#[]⟩] 35)) hz0 [.bool false, .int .i64 0, .int .i64 0, .string ⟨#[]⟩] 26)
              have G9 : Hid (X.heap.size ≤ X.heap.size + 1) := hid (by rw [← hz0]; exact B.out.size)
              have NN : X.heap.size + 1 ≠ X.heap.size := by have h2 : X.heap.size < ((X.drew).alloc (.cells #[.int .i64 0, .int .i64 0, .slice none 0 0, .string ⟨#[]⟩] 35)).heap.size := RZ10.out.lt; omega
              replace RZ10 := hid (row_old RZ10.out (.cells #[.bool false, .int .i64 0, .int .i64 0, .string ⟨#[]⟩] 26))
              replace B := hid (below_al B.out (.cells #[.bool false, .int .i64 0, .int .i64 0, .string ⟨#[]⟩] 26))
              clear hz0
              go_simp
              clear hHeld
              refine hK.out _ _ (HCE.out _ B.out) (fun hHeld => ?_)
              clear hK K
              try simp only [Act.put, List.getElem_toArray, List.getElem_cons_succ, List.getElem_cons_zero, List.setIfInBounds_toArray, List.set_cons_zero, List.set_cons_succ]
              refine wpAnyH_ready (rs := [5]) (by kernel_rfl) (by simp) ?_
              refine AllReadyH.cons rfl (fun K hK => ?_) AllReadyH.nil
              go_simp
              refine (HT.out (((X.drew).alloc (.cells #[.int .i64 0, .int .i64 0, .slice none 0 0, .string ⟨#[]⟩] 35)).alloc (.cells #[.bool false, .int .i64 0, .int .i64 0, .string ⟨#[]⟩] 26))).mono ?_
              rintro e wi ⟨ad2, cap2, rfl, i2, b2, o2⟩
              have I2 := hid i2
              have O2 : Hid (∀ bb oo, ad2 = some ⟨bb, oo, none⟩ → X.heap.size ≤ bb) := fun bb oo e => Nat.le_trans B.out.size (o2 bb oo e)
              have BI : Hid (Below wi.heap.size wi wi) := Below.refl _ _
              have kb := b2.keep (fun _ => False)
              have C9 : Hid (∀ bb oo, ad2 = some ⟨bb, oo, none⟩ → bb < wi.heap.size → bb ≠ X.heap.size + 1) := fun bb oo e h => by have h1 : (((X.drew).alloc (.cells #[.int .i64 0, .int .i64 0, .slice none 0 0, .string ⟨#[]⟩] 35)).alloc (.cells #[.bool false, .int .i64 0, .int .i64 0, .string ⟨#[]⟩] 26)).heap.size ≤ bb := o2 bb oo e; have h2 : X.heap.size + 1 < (((X.drew).alloc (.cells #[.int .i64 0, .int .i64 0, .slice none 0 0, .string ⟨#[]⟩] 35)).alloc (.cells #[.bool false, .int .i64 0, .int .i64 0, .string ⟨#[]⟩] 26)).heap.size := RZ9.out.lt; omega
              replace RZ9 := hid (RZ9.out.keep kb (fun h => h))
              have C10 : Hid (∀ bb oo, ad2 = some ⟨bb, oo, none⟩ → bb < wi.heap.size → bb ≠ X.heap.size) := fun bb oo e h => by have h1 : (((X.drew).alloc (.cells #[.int .i64 0, .int .i64 0, .slice none 0 0, .string ⟨#[]⟩] 35)).alloc (.cells #[.bool false, .int .i64 0, .int .i64 0, .string ⟨#[]⟩] 26)).heap.size ≤ bb := o2 bb oo e; have h2 : X.heap.size < (((X.drew).alloc (.cells #[.int .i64 0, .int .i64 0, .slice none 0 0, .string ⟨#[]⟩] 35)).alloc (.cells #[.bool false, .int .i64 0, .int .i64 0, .string ⟨#[]⟩] 26)).heap.size := RZ10.out.lt; omega
              replace RZ10 := hid (RZ10.out.keep kb (fun h => h))
              replace B := hid (below_on B.out b2)
              clear i2 kb b2 o2
              go_wp2_with fail
              clear hHeld
              refine hK.out _ _ (HCE.out _ B.out) (fun hHeld => ?_)
              clear hK K
              try simp only [Act.put, List.getElem_toArray, List.getElem_cons_succ, List.getElem_cons_zero, List.setIfInBounds_toArray, List.set_cons_zero, List.set_cons_succ]
              refine wpAnyH_take (i := 6) (v := ?vv36) rfl (by kernel_rfl) (by kernel_rfl) (by kernel_rfl) (fun _ _ _ h => h) (Or.inl ⟨by rfl, ?hy36⟩) (by assumption) ?rest36
              case hy36 => (intro w hSw; (try dsimp only at hSw); go_simp; first | done | with_reducible rfl)
              try simp only [Act.put, List.getElem_toArray, List.getElem_cons_succ, List.getElem_cons_zero, List.setIfInBounds_toArray, List.set_cons_zero, List.set_cons_succ]
              refine wpAnyH_take (i := 7) (v := ?vv37) rfl (by kernel_rfl) (by kernel_rfl) (by kernel_rfl) (fun _ _ _ h => h) (Or.inl ⟨by rfl, ?hy37⟩) (by assumption) ?rest37
              case hy37 => (intro w hSw; (try dsimp only at hSw); go_simp; first | done | with_reducible rfl)
              try simp only [Act.put, List.getElem_toArray, List.getElem_cons_succ, List.getElem_cons_zero, List.setIfInBounds_toArray, List.set_cons_zero, List.set_cons_succ]
              refine wpAnyH_take (i := 8) (v := ?vv38) rfl (by kernel_rfl) (by kernel_rfl) (by kernel_rfl) (fun _ _ _ h => h) (Or.inl ⟨by rfl, ?hy38⟩) (by assumption) ?rest38
              case hy38 => (intro w hSw; (try dsimp only at hSw); go_simp; first | done | with_reducible rfl)
              try simp only [Act.put, List.getElem_toArray, List.getElem_cons_succ, List.getElem_cons_zero, List.setIfInBounds_toArray, List.set_cons_zero, List.set_cons_succ]
              refine wpAnyH_take (i := 9) (v := ?vv39) rfl (by kernel_rfl) (by kernel_rfl) (by kernel_rfl) (fun _ _ _ h => h) (Or.inl ⟨by rfl, ?hy39⟩) (by assumption) ?rest39
              case hy39 => (intro w hSw; (try dsimp only at hSw); go_simp; first | done | with_reducible rfl)
              try simp only [Act.put, List.getElem_toArray, List.getElem_cons_succ, List.getElem_cons_zero, List.setIfInBounds_toArray, List.set_cons_zero, List.set_cons_succ]
              refine wpAnyH_take (i := 10) (v := ?vv40) rfl (by kernel_rfl) (by kernel_rfl) (by kernel_rfl) (fun _ _ _ h => h) (Or.inl ⟨by rfl, ?hy40⟩) (by assumption) ?rest40
              case hy40 => (intro w hSw; (try dsimp only at hSw); go_simp; first | done | with_reducible rfl)
              try simp only [Act.put, List.getElem_toArray, List.getElem_cons_succ, List.getElem_cons_zero, List.setIfInBounds_toArray, List.set_cons_zero, List.set_cons_succ]
              have NN2 : X.heap.size ≠ X.heap.size + 1 := fun h => NN h.symm
              have FIN := hid (r9_fin (X := X) (⟨g1, g2, g3, g4⟩ : Ga) (⟨si, st, sm, sd⟩ : Sh) RZ9.out RZ10.out NN G9.out G10.out I2.out BI.out (fun bb oo e h => ⟨C9.out bb oo e h, C10.out bb oo e h⟩) O2.out B.out)
              have ZS1 := hid (HCE.out _ (bl_set (bl_set (bl_set (bl_set B.out G9.out 0 (.bool g1)) G9.out 1 (.int .i64 g2)) G9.out 2 (.int .i64 g3)) G9.out 3 (.string ⟨g4.toArray⟩)))
              have ZS2 := hid (HCE.out _ FIN.out.bl)
              unfold p8 at FIN ZS2
              have KK := hid (z4 (.bool g1) (.int .i64 g2) (.int .i64 g3) (.string ⟨g4.toArray⟩) RZ10.out NN)
              have c90 := RZ9.out.cellAt (o := 0) rfl
              have f90 : (wi).frozen? ⟨X.heap.size + 1, 0, none⟩ = false := RZ9.out.frozen
              have c91 := RZ9.out.cellAt (o := 1) rfl
              have f91 : (wi).frozen? ⟨X.heap.size + 1, 1, none⟩ = false := RZ9.out.frozen
              have c92 := RZ9.out.cellAt (o := 2) rfl
              have f92 : (wi).frozen? ⟨X.heap.size + 1, 2, none⟩ = false := RZ9.out.frozen
              have c93 := RZ9.out.cellAt (o := 3) rfl
              have f93 : (wi).frozen? ⟨X.heap.size + 1, 3, none⟩ = false := RZ9.out.frozen
              clear RZ9 RZ10 I2 BI C9 C10 B HCE HT
              generalize wi = Y at *
              refine wpAnyH_ready (rs := [13]) (by kernel_rfl) (by simp) ?_
              refine AllReadyH.cons rfl (fun K hK => ?_) AllReadyH.nil
              go_simp
              clear hHeld
              refine hK.out _ _ ZS1.out (fun hHeld => ?_)
              clear hK K
              try simp only [Act.put, List.getElem_toArray, List.getElem_cons_succ, List.getElem_cons_zero, List.setIfInBounds_toArray, List.set_cons_zero, List.set_cons_succ]
              clear ZS1 c90 c91 c92 c93 f90 f91 f92 f93
              generalize (((Y.setCell ⟨X.heap.size + 1, 0, none⟩ (.bool g1)).setCell ⟨X.heap.size + 1, 1, none⟩ (.int .i64 g2)).setCell ⟨X.heap.size + 1, 2, none⟩ (.int .i64 g3)).setCell ⟨X.heap.size + 1, 3, none⟩ (.string ⟨g4.toArray⟩) = Z at *
              have c100 := KK.out.cellAt (o := 0) rfl
              have f100 : Z.frozen? ⟨X.heap.size, 0, none⟩ = false := KK.out.frozen
              have c101 := KK.out.cellAt (o := 1) rfl
              have f101 : Z.frozen? ⟨X.heap.size, 1, none⟩ = false := KK.out.frozen
              have c102 := KK.out.cellAt (o := 2) rfl
              have f102 : Z.frozen? ⟨X.heap.size, 2, none⟩ = false := KK.out.frozen
              have c103 := KK.out.cellAt (o := 3) rfl
              have f103 : Z.frozen? ⟨X.heap.size, 3, none⟩ = false := KK.out.frozen
              refine wpAnyH_ready (rs := [14]) (by kernel_rfl) (by simp) ?_
              refine AllReadyH.cons rfl (fun K hK => ?_) AllReadyH.nil
              go_simp
              clear hHeld
              refine hK.out _ _ ZS2.out (fun hHeld => ?_)
              clear hK K
              try simp only [Act.put, List.getElem_toArray, List.getElem_cons_succ, List.getElem_cons_zero, List.setIfInBounds_toArray, List.set_cons_zero, List.set_cons_succ]
              clear ZS2 KK c100 c101 c102 c103 f100 f101 f102 f103
              refine wpAnyH_take (i := 15) (v := ?vv41) rfl (by kernel_rfl) (by kernel_rfl) (by kernel_rfl) (fun _ _ _ h => h) (Or.inl ⟨by rfl, ?hy41⟩) (by assumption) ?rest41
              case hy41 => (intro w hSw; (try dsimp only at hSw); go_simp; first | done | with_reducible rfl)
              try simp only [Act.put, List.getElem_toArray, List.getElem_cons_succ, List.getElem_cons_zero, List.setIfInBounds_toArray, List.set_cons_zero, List.set_cons_succ]
              refine wpAnyH_take (i := 16) (v := ?vv42) rfl (by kernel_rfl) (by kernel_rfl) (by kernel_rfl) (fun _ _ _ h => h) (Or.inl ⟨by rfl, ?hy42⟩) (by assumption) ?rest42
              case hy42 => (intro w hSw; (try dsimp only at hSw); go_simp; first | done | with_reducible rfl)
              try simp only [Act.put, List.getElem_toArray, List.getElem_cons_succ, List.getElem_cons_zero, List.setIfInBounds_toArray, List.set_cons_zero, List.set_cons_succ]
              refine wpAnyH_done (by kernel_rfl) ?_ _
              go_wp2_with fail
              go_meet
              exact ⟨_, _, ad2, cap2, rfl, rfl, rfl, rfl, FIN⟩
        case rest =>
          obtain ⟨b9, b10, ad2, cap2, rfl, rfl, rfl, rfl, HR⟩ := hcut
          have HF : Hid (R10 w ⟨g1, g2, g3, g4⟩ ⟨si, st, sm, sd⟩ v' w3.heap.size b10 ad1 cap1 ad2 cap2 (q4 wc (w.heap.size + 1) ⟨g1, g2, g3, g4⟩)) := r10_fin M2.out R6.out P6.out HI2.out HO1.out HR.out
          unfold q4 at HF
          have M9 := hid (M2.out.next HR.out.bl)
          have c90 := HR.out.r9.cellAt (o := 0) rfl
          have d0 := M9.out.m.cellAt (o := 0) rfl
          have f0 : wc.frozen? ⟨w.heap.size + 1, 0, none⟩ = false := M9.out.m.frozen
          have c91 := HR.out.r9.cellAt (o := 1) rfl
          have d1 := M9.out.m.cellAt (o := 1) rfl
          have f1 : wc.frozen? ⟨w.heap.size + 1, 1, none⟩ = false := M9.out.m.frozen
          have c92 := HR.out.r9.cellAt (o := 2) rfl
          have d2 := M9.out.m.cellAt (o := 2) rfl
          have f2 : wc.frozen? ⟨w.heap.size + 1, 2, none⟩ = false := M9.out.m.frozen
          have c93 := HR.out.r9.cellAt (o := 3) rfl
          have d3 := M9.out.m.cellAt (o := 3) rfl
          have f3 : wc.frozen? ⟨w.heap.size + 1, 3, none⟩ = false := M9.out.m.frozen
          have HREF : Hid (∀ W, Calls Try.prog 10 #[.agg #[.int .i64 si, .int .i64 st, .slice ad1 sm.length cap1, .string sd]] W (fun e w' => e = .returned (.agg #[.int .i64 si, .int .i64 st, .slice ad1 sm.length cap1, .string sd]) ∧ Below W.heap.size W w')) := fun W => refOf_any ad1 sm.length cap1 ⟨si, st, sm, sd⟩ W
          have HSAM : Hid (∀ W, R10 w ⟨g1, g2, g3, g4⟩ ⟨si, st, sm, sd⟩ v' w3.heap.size b10 ad1 cap1 ad2 cap2 W → Calls Try.prog 9 #[.agg #[.int .i64 si, .int .i64 st, .slice ad1 sm.length cap1, .string sd], .agg #[.int .i64 si, .int .i64 st, .slice ad2 sm.length cap2, .string sd]] W (fun e w' => e = .returned (.bool true) ∧ Below W.heap.size W w')) := fun W hW => by
            have h := rsame_any (.slice ad1 sm.length cap1) (.slice ad2 sm.length cap2) ⟨si, st, sm, sd⟩ ⟨si, st, sm, sd⟩ W hW.i1 hW.i2 (Nat.le_trans HTM.out (by omega))
            rw [show smS ⟨si, st, sm, sd⟩ ⟨si, st, sm, sd⟩ = true from by unfold smS; simp] at h
            exact h
          have ZC : Hid (∀ W, R10 w ⟨g1, g2, g3, g4⟩ ⟨si, st, sm, sd⟩ v' w3.heap.size b10 ad1 cap1 ad2 cap2 W → (fun w' => w'.cell? ⟨w3.heap.size, 0, none⟩ = some (.int .i64 si) ∧ w'.cell? ⟨w3.heap.size, 1, none⟩ = some (.int .i64 st) ∧ w'.cell? ⟨w3.heap.size, 2, none⟩ = some (.slice ad1 sm.length cap1) ∧ w'.cell? ⟨w3.heap.size, 3, none⟩ = some (.string sd) ∧ w'.cell? ⟨b10, 0, none⟩ = some (.int .i64 si) ∧ w'.cell? ⟨b10, 1, none⟩ = some (.int .i64 st) ∧ w'.cell? ⟨b10, 2, none⟩ = some (.slice ad2 sm.length cap2) ∧ w'.cell? ⟨b10, 3, none⟩ = some (.string sd)) W) := fun W hW => ⟨hW.r6.cellAt rfl, hW.r6.cellAt rfl, hW.r6.cellAt rfl, hW.r6.cellAt rfl, hW.r10.cellAt rfl, hW.r10.cellAt rfl, hW.r10.cellAt rfl, hW.r10.cellAt rfl⟩
          clear M2 R6 HI2 HR M9 HCE P6 HO1 HCH HTM
          go_upto_region 11 with fail
          generalize (((wc.setCell ⟨w.heap.size + 1, 0, none⟩ (.bool g1)).setCell ⟨w.heap.size + 1, 1, none⟩ (.int .i64 g2)).setCell ⟨w.heap.size + 1, 2, none⟩ (.int .i64 g3)).setCell ⟨w.heap.size + 1, 3, none⟩ (.string ⟨g4.toArray⟩) = Z at *
          replace HF := hid (HF.out.next (Below.refl _ _).drew)
          clear c90 c91 c92 c93 d0 d1 d2 d3 f0 f1 f2 f3
          refine wp_region_held_drew (S := (fun w' => w'.cell? ⟨w3.heap.size, 0, none⟩ = some (.int .i64 si) ∧ w'.cell? ⟨w3.heap.size, 1, none⟩ = some (.int .i64 st) ∧ w'.cell? ⟨w3.heap.size, 2, none⟩ = some (.slice ad1 sm.length cap1) ∧ w'.cell? ⟨w3.heap.size, 3, none⟩ = some (.string sd) ∧ w'.cell? ⟨b10, 0, none⟩ = some (.int .i64 si) ∧ w'.cell? ⟨b10, 1, none⟩ = some (.int .i64 st) ∧ w'.cell? ⟨b10, 2, none⟩ = some (.slice ad2 sm.length cap2) ∧ w'.cell? ⟨b10, 3, none⟩ = some (.string sd))) (by kernel_rfl) (ZC.out _ HF.out) (fun hHeld => ?_)
          refine wpAnyH_take (i := 0) (v := ?vv5001) rfl (by kernel_rfl) (by kernel_rfl) (by kernel_rfl) (fun _ _ _ h => h) (Or.inl ⟨by rfl, ?hy5001⟩) (by assumption) ?rest5001
          case hy5001 => (intro w hSw; (try dsimp only at hSw); go_simp; first | done | with_reducible rfl)
          try simp only [Act.put, List.getElem_toArray, List.getElem_cons_succ, List.getElem_cons_zero, List.setIfInBounds_toArray, List.set_cons_zero, List.set_cons_succ]
          refine wpAnyH_take (i := 1) (v := ?vv5002) rfl (by kernel_rfl) (by kernel_rfl) (by kernel_rfl) (fun _ _ _ h => h) (Or.inl ⟨by rfl, ?hy5002⟩) (by assumption) ?rest5002
          case hy5002 => (intro w hSw; (try dsimp only at hSw); go_simp; first | done | with_reducible rfl)
          try simp only [Act.put, List.getElem_toArray, List.getElem_cons_succ, List.getElem_cons_zero, List.setIfInBounds_toArray, List.set_cons_zero, List.set_cons_succ]
          refine wpAnyH_take (i := 2) (v := ?vv5003) rfl (by kernel_rfl) (by kernel_rfl) (by kernel_rfl) (fun _ _ _ h => h) (Or.inl ⟨by rfl, ?hy5003⟩) (by assumption) ?rest5003
          case hy5003 => (intro w hSw; (try dsimp only at hSw); go_simp; first | done | with_reducible rfl)
          try simp only [Act.put, List.getElem_toArray, List.getElem_cons_succ, List.getElem_cons_zero, List.setIfInBounds_toArray, List.set_cons_zero, List.set_cons_succ]
          refine wpAnyH_take (i := 3) (v := ?vv5004) rfl (by kernel_rfl) (by kernel_rfl) (by kernel_rfl) (fun _ _ _ h => h) (Or.inl ⟨by rfl, ?hy5004⟩) (by assumption) ?rest5004
          case hy5004 => (intro w hSw; (try dsimp only at hSw); go_simp; first | done | with_reducible rfl)
          try simp only [Act.put, List.getElem_toArray, List.getElem_cons_succ, List.getElem_cons_zero, List.setIfInBounds_toArray, List.set_cons_zero, List.set_cons_succ]
          refine wpAnyH_take (i := 4) (v := ?vv5005) rfl (by kernel_rfl) (by kernel_rfl) (by kernel_rfl) (fun _ _ _ h => h) (Or.inl ⟨by rfl, ?hy5005⟩) (by assumption) ?rest5005
          case hy5005 => (intro w hSw; (try dsimp only at hSw); go_simp; first | done | with_reducible rfl)
          try simp only [Act.put, List.getElem_toArray, List.getElem_cons_succ, List.getElem_cons_zero, List.setIfInBounds_toArray, List.set_cons_zero, List.set_cons_succ]
          refine wpAnyH_take (i := 5) (v := ?vv5006) rfl (by kernel_rfl) (by kernel_rfl) (by kernel_rfl) (fun _ _ _ h => h) (Or.inl ⟨by rfl, ?hy5006⟩) (by assumption) ?rest5006
          case hy5006 => (intro w hSw; (try dsimp only at hSw); go_simp; first | done | with_reducible rfl)
          try simp only [Act.put, List.getElem_toArray, List.getElem_cons_succ, List.getElem_cons_zero, List.setIfInBounds_toArray, List.set_cons_zero, List.set_cons_succ]
          refine wpAnyH_take (i := 6) (v := ?vv5007) rfl (by kernel_rfl) (by kernel_rfl) (by kernel_rfl) (fun _ _ _ h => h) (Or.inl ⟨by rfl, ?hy5007⟩) (by assumption) ?rest5007
          case hy5007 => (intro w hSw; (try dsimp only at hSw); go_simp; first | done | with_reducible rfl)
          try simp only [Act.put, List.getElem_toArray, List.getElem_cons_succ, List.getElem_cons_zero, List.setIfInBounds_toArray, List.set_cons_zero, List.set_cons_succ]
          refine wpAnyH_take (i := 7) (v := ?vv5008) rfl (by kernel_rfl) (by kernel_rfl) (by kernel_rfl) (fun _ _ _ h => h) (Or.inl ⟨by rfl, ?hy5008⟩) (by assumption) ?rest5008
          case hy5008 => (intro w hSw; (try dsimp only at hSw); go_simp; first | done | with_reducible rfl)
          try simp only [Act.put, List.getElem_toArray, List.getElem_cons_succ, List.getElem_cons_zero, List.setIfInBounds_toArray, List.set_cons_zero, List.set_cons_succ]
          refine wpAnyH_take (i := 8) (v := ?vv5009) rfl (by kernel_rfl) (by kernel_rfl) (by kernel_rfl) (fun _ _ _ h => h) (Or.inl ⟨by rfl, ?hy5009⟩) (by assumption) ?rest5009
          case hy5009 => (intro w hSw; (try dsimp only at hSw); go_simp; first | done | with_reducible rfl)
          try simp only [Act.put, List.getElem_toArray, List.getElem_cons_succ, List.getElem_cons_zero, List.setIfInBounds_toArray, List.set_cons_zero, List.set_cons_succ]
          refine wpAnyH_take (i := 9) (v := ?vv5010) rfl (by kernel_rfl) (by kernel_rfl) (by kernel_rfl) (fun _ _ _ h => h) (Or.inl ⟨by rfl, ?hy5010⟩) (by assumption) ?rest5010
          case hy5010 => (intro w hSw; (try dsimp only at hSw); go_simp; first | done | with_reducible rfl)
          try simp only [Act.put, List.getElem_toArray, List.getElem_cons_succ, List.getElem_cons_zero, List.setIfInBounds_toArray, List.set_cons_zero, List.set_cons_succ]
          refine wpAnyH_take (i := 11) (v := ?vv5011) rfl (by kernel_rfl) (by kernel_rfl) (by kernel_rfl) (fun _ _ _ h => h) (Or.inl ⟨by rfl, ?hy5011⟩) (by assumption) ?rest5011
          case hy5011 => (intro w hSw; (try dsimp only at hSw); go_simp; first | done | with_reducible rfl)
          try simp only [Act.put, List.getElem_toArray, List.getElem_cons_succ, List.getElem_cons_zero, List.setIfInBounds_toArray, List.set_cons_zero, List.set_cons_succ]
          refine wpAnyH_ready (rs := [10]) (by kernel_rfl) (by simp) ?_
          refine AllReadyH.cons rfl (fun K hK => ?_) AllReadyH.nil
          go_simp
          refine (HREF.out _).mono ?_
          rintro e wA ⟨rfl, bA⟩
          have RA := hid (HF.out.next bA)
          clear bA
          go_wp2_with fail
          refine hK.out _ _ (ZC.out _ RA.out) (fun hHeld => ?_)
          clear hK K
          try simp only [Act.put, List.getElem_toArray, List.getElem_cons_succ, List.getElem_cons_zero, List.setIfInBounds_toArray, List.set_cons_zero, List.set_cons_succ]
          refine wpAnyH_ready (rs := [12]) (by kernel_rfl) (by simp) ?_
          refine AllReadyH.cons rfl (fun K hK => ?_) AllReadyH.nil
          go_simp
          refine (HSAM.out _ RA.out).mono ?_
          rintro e wB ⟨rfl, bB⟩
          have RB := hid (RA.out.next bB)
          clear bB
          go_wp2_with fail
          refine hK.out _ _ (ZC.out _ RB.out) (fun hHeld => ?_)
          clear hK K
          try simp only [Act.put, List.getElem_toArray, List.getElem_cons_succ, List.getElem_cons_zero, List.setIfInBounds_toArray, List.set_cons_zero, List.set_cons_succ]
          refine wpAnyH_take (i := 13) (v := ?vv5012) rfl (by kernel_rfl) (by kernel_rfl) (by kernel_rfl) (fun _ _ _ h => h) (Or.inl ⟨by rfl, ?hy5012⟩) (by assumption) ?rest5012
          case hy5012 => (intro w hSw; (try dsimp only at hSw); go_simp; first | done | with_reducible rfl)
          try simp only [Act.put, List.getElem_toArray, List.getElem_cons_succ, List.getElem_cons_zero, List.setIfInBounds_toArray, List.set_cons_zero, List.set_cons_succ]
          refine wpAnyH_take (i := 14) (v := ?vv5013) rfl (by kernel_rfl) (by kernel_rfl) (by kernel_rfl) (fun _ _ _ h => h) (Or.inl ⟨by rfl, ?hy5013⟩) (by assumption) ?rest5013
          case hy5013 => (intro w hSw; (try dsimp only at hSw); go_simp; first | done | with_reducible rfl)
          try simp only [Act.put, List.getElem_toArray, List.getElem_cons_succ, List.getElem_cons_zero, List.setIfInBounds_toArray, List.set_cons_zero, List.set_cons_succ]
          refine wpAnyH_done (by kernel_rfl) ?_ _
          clear HREF HSAM ZC
          go_wp2_with fail
          have hlt := HLT.out
          exact ⟨⟨k + 1, ⟨g1, g2, g3, g4⟩, v', hlt, by first | rfl | (rw [hwk]), RB.out.m⟩, by simp [intOf]; omega⟩
      · have hd2 : decide ((k : Int) < 200) = false := decide_eq_false (by omega)
        clear HC HY hz HV M0
        go_wp2_with fail
        refine (NT.out _).mono ?_
        rintro e wN ⟨rfl, bN⟩
        have BZ := hid (below_on HG.out.bl bN)
        clear bN HG NT
        go_wp2_with fail
        go_ret
        exact ⟨rfl, below_al BZ.out _⟩
    · have hd1 : decide ((k : Int) < (l.length : Int)) = false := decide_eq_false (by omega)
      clear HC HY hz HV M0
      go_wp2_with fail
      refine (NT.out _).mono ?_
      rintro e wN ⟨rfl, bN⟩
      have BZ := hid (below_on HG.out.bl bN)
      clear bN HG NT
      go_wp2_with fail
      go_ret
      exact ⟨rfl, below_al BZ.out _⟩
end Go.Proofs.Ytpbfjcgncfdfnaa
