/- Joined: The walk of the law ShotGathers. ShotWhole: what is gathered of a snapshot's chunks that come in order, and the memory of the law. The walk of the law ShotWhole. -/
import Derived.Test.YtpbfjcgncfdfnaaJoined20
import Derived.Test.YtpbfjcgncfdfnaaJoined18
import Derived.Test.YtpbfjcgncfdfnaaJoined12
import Derived.Test.YtpbfjcgncfdfnaaChZ
import Derived.BigRegion
import Derived.Deep.RegionHeld3
import Derived.Deep.RegionLaw
import Derived.Deep.CutRange
namespace Go.Proofs.Ytpbfjcgncfdfnaa
open Go.RowKit Go.Maps
set_option linter.unusedVariables false
set_option linter.unusedSimpArgs false

/-- the memory of the law between two chunks: the gatherer, what it holds, the document's own -/
structure GM (w : World) (g g' : Ga) (v : Value) (W : World) : Prop where
  r : RowIs W w.heap.size (gaC v g') 50
  b : BSl W 0 v g'.tx
  z : g'.tx.length ≤ 262144
  o : ∀ b, v.ownBlock = some b → w.heap.size + 2 ≤ b
  m : RowIs W (w.heap.size + 1) [.bool g.bg, .int .i64 g.ix, .int .i64 g.tm, .string ⟨g.tx.toArray⟩] 26
  bl : Below w.heap.size w W
theorem GM.next {w W W' : World} {g g' : Ga} {v : Value} (h : GM w g g' v W) (hb : Below W.heap.size W W') : GM w g g' v W' := by
  have k := hb.keep (fun _ => False)
  exact ⟨h.r.keep k (fun h => h), bsl_over h.b k (fun _ _ h => h), h.z, h.o, h.m.keep k (fun h => h), below_on h.bl hb⟩
theorem GM.take {w W W' : World} {g : Ga} {v v' : Value} {R : Ga} (h : GM w g g v W) (hr : RowIs W' w.heap.size (gaC v' R) 50) (hb : BSl W' 0 v' R.tx) (hz : R.tx.length ≤ 262144) (ho : ∀ b, v'.ownBlock = some b → v.ownBlock = some b ∨ W.heap.size ≤ b) (hk : Keep (fun k => k = w.heap.size ∨ v.ownBlock = some k) W W') : GM w g R v' W' := by
  have hlt := h.m.lt
  refine ⟨hr, hb, hz, fun b e => ?_, h.m.keep hk (fun e => ?_), h.bl.trans (keep_below hk (fun j hj e => ?_) h.bl.size)⟩
  · rcases ho b e with e | e
    · exact h.o b e
    · omega
  · rcases e with e | e
    · omega
    · have := h.o _ e; omega
  · rcases e with e | e
    · omega
    · have := h.o _ e; omega
theorem gm_made (w W : World) (h : Below (w.heap.size + 2) ((w.alloc (.cells #[.bool false, .int .i64 0, .int .i64 0, .slice none 0 0] 50)).alloc (.cells #[.bool false, .int .i64 0, .int .i64 0, .string ⟨#[]⟩] 26)) W) : GM w ga0 ga0 (.slice none 0 0) W := by
  have h0 : GM w ga0 ga0 (.slice none 0 0) ((w.alloc (.cells #[.bool false, .int .i64 0, .int .i64 0, .slice none 0 0] 50)).alloc (.cells #[.bool false, .int .i64 0, .int .i64 0, .string ⟨#[]⟩] 26)) :=
    ⟨row_old (srow w _ _) _, .inl ⟨rfl, rfl⟩, (by show ([] : Bs).length ≤ _; simp), fun b e => (by cases e), row_last _ _ _ _ (by simp), below_al (below_al (Below.refl _ _) _) _⟩
  exact h0.next (by simpa using h)
/-- what region 9 leaves: the document's answers in their boxes -/
structure R9 (X : World) (g' : Ga) (x : Sh) (b9 b10 : Nat) (ad : Option Addr) (cap : Nat) (W : World) : Prop where
  r9 : RowIs W b9 [.bool g'.bg, .int .i64 g'.ix, .int .i64 g'.tm, .string ⟨g'.tx.toArray⟩] 26
  r10 : RowIs W b10 [.int .i64 x.ix, .int .i64 x.tm, .slice ad x.ms.length cap, .string x.da] 35
  i : IntsI W (.slice ad x.ms.length cap) x.ms
  g9 : X.heap.size ≤ b9
  g10 : X.heap.size ≤ b10
  o : ∀ bb oo, ad = some ⟨bb, oo, none⟩ → X.heap.size ≤ bb
  bl : Below X.heap.size X W
def p8 (W : World) (b9 b10 : Nat) (g' : Ga) (x : Sh) (v : Value) : World := ((((((((W.setCell ⟨b9, 0, none⟩ (.bool g'.bg)).setCell ⟨b9, 1, none⟩ (.int .i64 g'.ix)).setCell ⟨b9, 2, none⟩ (.int .i64 g'.tm)).setCell ⟨b9, 3, none⟩ (.string ⟨g'.tx.toArray⟩)).setCell ⟨b10, 0, none⟩ (.int .i64 x.ix)).setCell ⟨b10, 1, none⟩ (.int .i64 x.tm)).setCell ⟨b10, 2, none⟩ v).setCell ⟨b10, 3, none⟩ (.string x.da))
theorem r9_fin {X Wi W : World} {b9 b10 : Nat} (g' : Ga) (x : Sh) {ad : Option Addr} {cap : Nat} (r9 : RowIs W b9 [.bool false, .int .i64 0, .int .i64 0, .string ⟨#[]⟩] 26) (r10 : RowIs W b10 [.int .i64 0, .int .i64 0, .slice none 0 0, .string ⟨#[]⟩] 35) (hn : b9 ≠ b10) (g9 : X.heap.size ≤ b9) (g10 : X.heap.size ≤ b10) (hI : IntsI Wi (.slice ad x.ms.length cap) x.ms) (hiw : Below Wi.heap.size Wi W) (n9 : ∀ bb oo, ad = some ⟨bb, oo, none⟩ → bb < Wi.heap.size → bb ≠ b9 ∧ bb ≠ b10) (ho : ∀ bb oo, ad = some ⟨bb, oo, none⟩ → X.heap.size ≤ bb) (bl : Below X.heap.size X W) :
    R9 X g' x b9 b10 ad cap (p8 W b9 b10 g' x (.slice ad x.ms.length cap)) := by
  have k2 : ∀ (A : World) (o : Nat) (u : Value), Keep (fun k => k = b9 ∨ k = b10) A (A.setCell ⟨b9, o, none⟩ u) := fun A o u => (keep_setCell A b9 o u).mono (fun _ _ h => .inl h)
  have k3 : ∀ (A : World) (o : Nat) (u : Value), Keep (fun k => k = b9 ∨ k = b10) A (A.setCell ⟨b10, o, none⟩ u) := fun A o u => (keep_setCell A b10 o u).mono (fun _ _ h => .inr h)
  have a4 := (((r9.set 0 (.bool g'.bg)).set 1 (.int .i64 g'.ix)).set 2 (.int .i64 g'.tm)).set 3 (.string ⟨g'.tx.toArray⟩)
  have q4 := (((a4.keep (keep_setCell _ b10 0 (.int .i64 x.ix)) (by omega)).keep (keep_setCell _ b10 1 (.int .i64 x.tm)) (by omega)).keep (keep_setCell _ b10 2 (.slice ad x.ms.length cap)) (by omega)).keep (keep_setCell _ b10 3 (.string x.da)) (by omega)
  have a5 := (((r10.keep (keep_setCell _ b9 0 (.bool g'.bg)) (by omega)).keep (keep_setCell _ b9 1 (.int .i64 g'.ix)) (by omega)).keep (keep_setCell _ b9 2 (.int .i64 g'.tm)) (by omega)).keep (keep_setCell _ b9 3 (.string ⟨g'.tx.toArray⟩)) (by omega)
  have q5 := (((a5.set 0 (.int .i64 x.ix)).set 1 (.int .i64 x.tm)).set 2 (.slice ad x.ms.length cap)).set 3 (.string x.da)
  have kk : Keep (fun k => k = b9 ∨ k = b10) W (p8 W b9 b10 g' x (.slice ad x.ms.length cap)) := by
    unfold p8
    refine Keep.trans ?_ (k3 _ 3 _)
    refine Keep.trans ?_ (k3 _ 2 _)
    refine Keep.trans ?_ (k3 _ 1 _)
    refine Keep.trans ?_ (k3 _ 0 _)
    refine Keep.trans ?_ (k2 _ 3 _)
    refine Keep.trans ?_ (k2 _ 2 _)
    refine Keep.trans ?_ (k2 _ 1 _)
    exact k2 _ 0 _
  refine ⟨by unfold p8; exact q4, by unfold p8; exact q5, ?_, g9, g10, ho, bl.trans (keep_below kk (fun j hj e => by omega) bl.size)⟩
  have kw := (hiw.keep (fun k => k = b9 ∨ k = b10)).trans kk
  rcases hI with hI | ⟨g1, off, cp, e, hg, hc⟩
  · exact .inl hI
  · have e0 := e
    refine .inr ⟨g1, off, cp, e0, Nat.lt_of_lt_of_le hg kw.size, fun j hj => ?_⟩
    simp only [Value.slice.injEq] at e
    have := n9 g1 off e.1 hg
    rw [kw.cell hg (by omega)]
    exact hc j hj
theorem ints_set {W : World} {ad : Option Addr} {cap : Nat} {l : List Int} {p : Nat} (h : IntsI W (.slice ad l.length cap) l) (hn : ∀ bb oo, ad = some ⟨bb, oo, none⟩ → bb ≠ p) (o : Nat) (u : Value) : IntsI (W.setCell ⟨p, o, none⟩ u) (.slice ad l.length cap) l := by
  have k := keep_setCell W p o u
  rcases h with h | ⟨g1, off, cp, e, hg, hc⟩
  · exact .inl h
  · have e0 := e
    refine .inr ⟨g1, off, cp, e0, Nat.lt_of_lt_of_le hg k.size, fun j hj => ?_⟩
    simp only [Value.slice.injEq] at e
    have := hn g1 off e.1
    rw [k.cell hg (by omega)]
    exact hc j hj
/-- what region 10 leaves: the document's gatherer is the new one -/
structure R10 (w : World) (g' : Ga) (x : Sh) (v : Value) (p6 b10 : Nat) (ad1 : Option Addr) (cap1 : Nat) (ad2 : Option Addr) (cap2 : Nat) (W : World) : Prop where
  m : GM w g' g' v W
  r6 : RowIs W p6 [.int .i64 x.ix, .int .i64 x.tm, .slice ad1 x.ms.length cap1, .string x.da] 30
  r10 : RowIs W b10 [.int .i64 x.ix, .int .i64 x.tm, .slice ad2 x.ms.length cap2, .string x.da] 35
  i1 : IntsI W (.slice ad1 x.ms.length cap1) x.ms
  i2 : IntsI W (.slice ad2 x.ms.length cap2) x.ms
theorem R10.next {w : World} {g' : Ga} {x : Sh} {v : Value} {p6 b10 : Nat} {ad1 : Option Addr} {cap1 : Nat} {ad2 : Option Addr} {cap2 : Nat} {W W' : World} (h : R10 w g' x v p6 b10 ad1 cap1 ad2 cap2 W) (hb : Below W.heap.size W W') : R10 w g' x v p6 b10 ad1 cap1 ad2 cap2 W' :=
  have k := hb.keep (fun _ => False)
  ⟨h.m.next hb, h.r6.keep k (fun h => h), h.r10.keep k (fun h => h), h.i1.next hb, h.i2.next hb⟩
def q4 (W : World) (p : Nat) (g' : Ga) : World := (((W.setCell ⟨p, 0, none⟩ (.bool g'.bg)).setCell ⟨p, 1, none⟩ (.int .i64 g'.ix)).setCell ⟨p, 2, none⟩ (.int .i64 g'.tm)).setCell ⟨p, 3, none⟩ (.string ⟨g'.tx.toArray⟩)
theorem gm_set {w W : World} {g g' : Ga} {v : Value} (h : GM w g g' v W) : GM w g' g' v (q4 W (w.heap.size + 1) g') := by
  have k : Keep (· = w.heap.size + 1) W (q4 W (w.heap.size + 1) g') := (((keep_setCell W _ 0 _).trans (keep_setCell _ _ 1 _)).trans (keep_setCell _ _ 2 _)).trans (keep_setCell _ _ 3 _)
  refine ⟨h.r.keep k (by omega), bsl_over h.b k (fun b e e2 => ?_), h.z, h.o, (((h.m.set 0 (.bool g'.bg)).set 1 (.int .i64 g'.ix)).set 2 (.int .i64 g'.tm)).set 3 (.string ⟨g'.tx.toArray⟩), h.bl.trans (keep_below k (fun j hj e => by omega) h.bl.size)⟩
  have := h.o b e; omega
theorem r10_fin {w X wc : World} {g g' : Ga} {x : Sh} {v : Value} {p6 b9 b10 : Nat} {ad1 : Option Addr} {cap1 : Nat} {ad2 : Option Addr} {cap2 : Nat} (hM : GM w g g' v X) (h6 : RowIs X p6 [.int .i64 x.ix, .int .i64 x.tm, .slice ad1 x.ms.length cap1, .string x.da] 30) (h6n : w.heap.size + 1 < p6) (hI : IntsI X (.slice ad1 x.ms.length cap1) x.ms) (hI1 : ∀ bb oo, ad1 = some ⟨bb, oo, none⟩ → w.heap.size + 2 ≤ bb) (hR : R9 X g' x b9 b10 ad2 cap2 wc) :
    R10 w g' x v p6 b10 ad1 cap1 ad2 cap2 (q4 wc (w.heap.size + 1) g') := by
  have hlt := hM.m.lt
  have k : Keep (· = w.heap.size + 1) wc (q4 wc (w.heap.size + 1) g') := (((keep_setCell wc _ 0 _).trans (keep_setCell _ _ 1 _)).trans (keep_setCell _ _ 2 _)).trans (keep_setCell _ _ 3 _)
  have kx := hR.bl.keep (fun _ => False)
  have n1 : ∀ bb oo, ad1 = some ⟨bb, oo, none⟩ → bb ≠ w.heap.size + 1 := fun bb oo e => by have := hI1 bb oo e; omega
  have n2 : ∀ bb oo, ad2 = some ⟨bb, oo, none⟩ → bb ≠ w.heap.size + 1 := fun bb oo e => by have := hR.o bb oo e; omega
  have hg := hR.g10
  exact ⟨gm_set (hM.next hR.bl), (h6.keep kx (fun h => h)).keep k (by omega), hR.r10.keep k (by omega), ints_set (ints_set (ints_set (ints_set (hI.next hR.bl) n1 _ _) n1 _ _) n1 _ _) n1 _ _, ints_set (ints_set (ints_set (ints_set hR.i n2 _ _) n2 _ _) n2 _ _) n2 _ _⟩
theorem sdV_ms (t : ByteArray) : (sdV t).ms.length ≤ 7 := by
  unfold sdV
  split
  · rename_i h
    unfold sdOk at h
    have h2 : chkS (sdT t).s = 0 := by simp at h; exact h.2
    exact (chk_ok h2).2.2.2.1
  · simp [sh0]
theorem endS_ms (ix tm : Int) (t : Bs) : (endS ix tm t).1.ms.length ≤ 7 := by
  unfold endS
  split
  · exact sdV_ms _
  · simp [sh0]
theorem takeG_ms (g : Ga) (c : Ch) : (takeG g c).2.1.1.ms.length ≤ 7 := by
  unfold takeG
  split
  · split
    · split
      · split
        · exact endS_ms _ _ _
        · simp [sh0]
      · simp [sh0]
    · simp [sh0]
  · simp [sh0]
end Go.Proofs.Ytpbfjcgncfdfnaa
namespace Go.Proofs.Ytpbfjcgncfdfnaa
open Go.RowKit Go.Maps
set_option linter.unusedVariables false
set_option linter.unusedSimpArgs false

def gk (ix tm : Int) (T : ByteArray) (m k : Nat) : Ga := if k = 0 then ga0 else ⟨true, ix, tm, T.data.toList.take (k * m)⟩
def exk (T : ByteArray) (m k : Nat) : ByteArray := T.extract (k * m) (min (k * m + m) T.size)
def lsk (T : ByteArray) (m k : Nat) : Bool := decide (T.size ≤ k * m + m)
theorem nck_lt {T : ByteArray} {m k : Nat} (hm : 1 ≤ m) : k < nck T m ↔ k * m < T.size := by
  unfold nck
  have h := Nat.le_div_iff_mul_le (x := k + 1) (y := T.size + m - 1) (show 0 < m from hm)
  rw [Nat.succ_mul] at h
  constructor
  · intro h1
    have := h.1 h1
    omega
  · intro h1
    exact h.2 (by omega)
theorem exk_list (T : ByteArray) (m k : Nat) : (exk T m k).data.toList = (T.data.toList.take (k * m + m)).drop (k * m) := by
  unfold exk
  have hs : T.data.toList.length = T.size := by simp
  rw [ByteArray.data_extract, Array.toList_extract, List.extract_eq_take_drop, List.drop_take]
  by_cases h : k * m + m ≤ T.size
  · rw [Nat.min_eq_left h]
  · rw [Nat.min_eq_right (by omega), List.take_of_length_le (by rw [List.length_drop]; omega), List.take_of_length_le (by rw [List.length_drop]; omega)]
theorem exk_size (T : ByteArray) (m k : Nat) : (exk T m k).size = min (k * m + m) T.size - k * m := by
  have h : (exk T m k).size = (exk T m k).data.toList.length := by simp
  rw [h, exk_list]
  simp
theorem ga1_gk (ix tm : Int) (T : ByteArray) (m k : Nat) (hm : 1 ≤ m) (l : Bool) (d : ByteArray) : ga1 (gk ix tm T m k) ⟨ix, tm, ((k * m : Nat) : Int), l, d⟩ = ⟨true, ix, tm, T.data.toList.take (k * m)⟩ := by
  unfold ga1 gk
  by_cases h : k = 0
  · subst h; simp
  · have h2 : ¬ ((k * m : Nat) : Int) = 0 := by
      have := Nat.mul_pos (Nat.pos_of_ne_zero h) (show 0 < m from hm)
      omega
    simp only [h2, h, if_false]
theorem ga1_old (ix tm ix' tm' : Int) (T : ByteArray) (m k : Nat) (p : Int) (hp : p ≠ 0) (l : Bool) (d : ByteArray) : ga1 (gk ix tm T m (k + 1)) ⟨ix', tm', p, l, d⟩ = ⟨true, ix, tm, T.data.toList.take ((k + 1) * m)⟩ := by
  unfold ga1 gk
  simp [hp]
theorem tkl (T : ByteArray) (n : Nat) (h : n ≤ T.size) : (T.data.toList.take n).length = n := by simp; exact Nat.min_eq_left h
theorem gk_next {ix tm : Int} {T : ByteArray} {m k : Nat} (hm : 1 ≤ m) (hk : k * m + m < T.size) (hT : T.size ≤ 200000) :
    takeG (gk ix tm T m k) ⟨ix, tm, ((k * m : Nat) : Int), lsk T m k, exk T m k⟩ = (gk ix tm T m (k + 1), (sh0, false), ((k * m : Nat) : Int) + ((exk T m k).size : Int)) := by
  have hz := exk_size T m k
  rw [Nat.min_eq_left (by omega)] at hz
  have hl : lsk T m k = false := decide_eq_false (by omega)
  have ht := tkl T (k * m) (by omega)
  have hap : T.data.toList.take (k * m) ++ (exk T m k).data.toList = T.data.toList.take (k * m + m) := by
    rw [exk_list]
    have := List.take_append_drop (k * m) (T.data.toList.take (k * m + m))
    rw [List.take_take, Nat.min_eq_left (by omega)] at this
    exact this
  unfold takeG
  rw [ga1_gk ix tm T m k hm]
  simp only [true_and, and_self, if_true, ht]
  rw [if_pos (by omega), hl]
  simp only [Bool.false_eq_true, if_false]
  rw [hap, tkl T _ (by omega)]
  have hg : gk ix tm T m (k + 1) = ⟨true, ix, tm, T.data.toList.take (k * m + m)⟩ := by
    unfold gk
    rw [if_neg (by omega), Nat.succ_mul]
  rw [hg, hz]
  simp
theorem gk_last {x : Sh} {m k : Nat} (hm : 1 ≤ m) (hc : chkS x = 0) (h1 : k * m < (encS x).size) (h2 : (encS x).size ≤ k * m + m) :
    takeG (gk x.ix x.tm (encS x) m k) ⟨x.ix, x.tm, ((k * m : Nat) : Int), lsk (encS x) m k, exk (encS x) m k⟩ = (ga0, (x, true), 0) := by
  have hT := encS_size x
  have hz := exk_size (encS x) m k
  rw [Nat.min_eq_right (by omega)] at hz
  have hl : lsk (encS x) m k = true := decide_eq_true h2
  have ht := tkl (encS x) (k * m) (by omega)
  have hap : (encS x).data.toList.take (k * m) ++ (exk (encS x) m k).data.toList = (encS x).data.toList := by
    rw [exk_list, List.take_of_length_le (show (encS x).data.toList.length ≤ k * m + m by simp; exact h2)]
    exact List.take_append_drop _ _
  have hd := sd_enc hc
  unfold takeG
  rw [ga1_gk x.ix x.tm (encS x) m k hm]
  simp only [true_and, and_self, if_true, ht]
  rw [if_pos (by omega), hl]
  simp only [if_true]
  rw [hap]
  have he : endS x.ix x.tm (encS x).data.toList = (x, true) := by
    unfold endS
    have e : (⟨(encS x).data.toList.toArray⟩ : ByteArray) = encS x := by simp
    rw [e, hd.1, hd.2]
    simp
  rw [he]
theorem gk_old {ix tm : Int} {T : ByteArray} {m k j : Nat} (hm : 1 ≤ m) (hj : 1 ≤ j) (hjk : j ≤ k) (hk : k * m + m < T.size) (l : Bool) (d : ByteArray) :
    takeG (gk ix tm T m (k + 1)) ⟨ix, tm, ((j * m : Nat) : Int), l, d⟩ = (gk ix tm T m (k + 1), (sh0, false), ((k * m : Nat) : Int) + ((exk T m k).size : Int)) := by
  have hz := exk_size T m k
  rw [Nat.min_eq_left (by omega)] at hz
  have hjm := Nat.mul_pos (show 0 < j from hj) (show 0 < m from hm)
  have hjk2 : j * m ≤ k * m := Nat.mul_le_mul_right m hjk
  have ht := tkl T ((k + 1) * m) (by rw [Nat.succ_mul]; omega)
  have hg : gk ix tm T m (k + 1) = ⟨true, ix, tm, T.data.toList.take ((k + 1) * m)⟩ := by
    unfold gk
    rw [if_neg (by omega)]
  unfold takeG
  rw [ga1_old ix tm ix tm T m k _ (by omega)]
  simp only [true_and, and_self, if_true, ht]
  rw [if_neg (by rw [Nat.succ_mul]; omega), hg, hz, Nat.succ_mul]
  simp
theorem gk_oth {ix tm : Int} {T : ByteArray} {m k : Nat} (hm : 1 ≤ m) (hk : k * m + m < T.size) (d : ByteArray) :
    takeG (gk ix tm T m (k + 1)) ⟨ix, tm + 1, ((k * m : Nat) : Int) + ((exk T m k).size : Int), true, d⟩ = (gk ix tm T m (k + 1), (sh0, false), 0) := by
  have hz := exk_size T m k
  rw [Nat.min_eq_left (by omega)] at hz
  have hg : gk ix tm T m (k + 1) = ⟨true, ix, tm, T.data.toList.take ((k + 1) * m)⟩ := by
    unfold gk
    rw [if_neg (by omega)]
  unfold takeG
  rw [ga1_old ix tm ix (tm + 1) T m k _ (by omega)]
  rw [if_neg (by simp only [true_and]; omega), hg]
/-- all that the law's loop wants of the chunks -/
structure WhP (x : Sh) (n : Nat) (G : Nat → Ga) (P A : Nat → Int) (ls : Nat → Bool) (ex : Nat → ByteArray) : Prop where
  g0 : G 0 = ga0
  z : ∀ k, (G k).tx.length ≤ 262144
  ez : ∀ k, (ex k).size ≤ 200000
  next : ∀ k, k + 1 < n → takeG (G k) ⟨x.ix, x.tm, P k, ls k, ex k⟩ = (G (k + 1), (sh0, false), A k)
  last : ∀ k, k + 1 = n → takeG (G k) ⟨x.ix, x.tm, P k, ls k, ex k⟩ = (ga0, (x, true), 0)
  old : ∀ j k, 1 ≤ j → j ≤ k → k + 1 < n → takeG (G (k + 1)) ⟨x.ix, x.tm, P j, ls j, ex j⟩ = (G (k + 1), (sh0, false), A k)
  oth : ∀ k, k + 1 < n → takeG (G (k + 1)) ⟨x.ix, x.tm + 1, A k, true, ⟨#[120]⟩⟩ = (G (k + 1), (sh0, false), 0)
  wr : ∀ k, k < n → wrap64 (P k + ((ex k).size : Int)) = A k
  wr2 : ∀ k, k < n → IntKind.i64.wrap (P k + ((ex k).size : Int)) = A k
  pos : 0 < n
  le : n ≤ 200000
theorem whP (x : Sh) (m : Nat) (hm : 1 ≤ m) (hm2 : m ≤ 64) (hc : chkS x = 0) : WhP x (nck (encS x) m) (gk x.ix x.tm (encS x) m) (fun k => ((k * m : Nat) : Int)) (fun k => ((k * m : Nat) : Int) + ((exk (encS x) m k).size : Int)) (lsk (encS x) m) (exk (encS x) m) := by
  have hT := encS_size x
  have hp := encS_pos hc
  have hn : ∀ k, k + 1 < nck (encS x) m → k * m + m < (encS x).size := fun k hk => by
    have := (nck_lt (T := encS x) hm).1 hk
    rwa [Nat.succ_mul] at this
  have hez : ∀ k, (exk (encS x) m k).size ≤ 200000 := fun k => by
    have := exk_size (encS x) m k
    omega
  refine ⟨rfl, fun k => ?_, hez, fun k hk => gk_next hm (hn k hk) hT, fun k hk => ?_, fun j k h1 h2 hk => gk_old hm h1 h2 (hn k hk) _ _, fun k hk => gk_oth hm (hn k hk) _, fun k hk => ?_, fun k hk => ?_, (nck_lt hm).2 (by simpa using hp), Nat.le_trans (nck_le _ _ hm) hT⟩
  · unfold gk
    split
    · simp [ga0]
    · have : ((encS x).data.toList.take (k * m)).length ≤ (encS x).size := by simp; omega
      simp only
      omega
  · have h1 := (nck_lt (T := encS x) (k := k) hm).1 (by omega)
    have h2 : ¬ (k + 1) * m < (encS x).size := fun h => by
      have := (nck_lt (T := encS x) (k := k + 1) hm).2 h
      omega
    rw [Nat.succ_mul] at h2
    exact gk_last hm hc h1 (by omega)
  · have h1 := (nck_lt (T := encS x) (k := k) hm).1 hk
    have h2 := hez k
    exact IntWalk.wrap64_in _ (by omega)
  · have h1 := (nck_lt (T := encS x) (k := k) hm).1 hk
    have h2 := hez k
    rw [IntKind.wrap_i64]
    omega
/-- the memory of the law between two chunks: the gatherer's -/
structure GW (B : World) (g : Ga) (v : Value) (W : World) : Prop where
  r : RowIs W B.heap.size (gaC v g) 50
  b : BSl W 0 v g.tx
  z : g.tx.length ≤ 262144
  o : ∀ b, v.ownBlock = some b → B.heap.size < b
  bl : Below B.heap.size B W
theorem GW.next {B W W' : World} {g : Ga} {v : Value} (h : GW B g v W) (hb : Below W.heap.size W W') : GW B g v W' := by
  have k := hb.keep (fun _ => False)
  exact ⟨h.r.keep k (fun h => h), bsl_over h.b k (fun _ _ h => h), h.z, h.o, below_on h.bl hb⟩
theorem GW.take {B W W' : World} {g : Ga} {v v' : Value} {R : Ga} (h : GW B g v W) (hr : RowIs W' B.heap.size (gaC v' R) 50) (hb : BSl W' 0 v' R.tx) (hz : R.tx.length ≤ 262144) (ho : ∀ b, v'.ownBlock = some b → v.ownBlock = some b ∨ W.heap.size ≤ b) (hk : Keep (fun k => k = B.heap.size ∨ v.ownBlock = some k) W W') : GW B R v' W' := by
  have hlt := h.r.lt
  refine ⟨hr, hb, hz, fun b e => ?_, h.bl.trans (keep_below hk (fun j hj e => ?_) h.bl.size)⟩
  · rcases ho b e with e | e
    · exact h.o b e
    · omega
  · rcases e with e | e
    · omega
    · have := h.o _ e; omega
theorem gw_made (B W : World) (h : Below (B.heap.size + 1) (B.alloc (.cells #[.bool false, .int .i64 0, .int .i64 0, .slice none 0 0] 50)) W) : GW B ga0 (.slice none 0 0) W := by
  have h0 : GW B ga0 (.slice none 0 0) (B.alloc (.cells #[.bool false, .int .i64 0, .int .i64 0, .slice none 0 0] 50)) :=
    ⟨srow B _ _, .inl ⟨rfl, rfl⟩, (by show ([] : Bs).length ≤ _; simp), fun b e => (by cases e), below_al (Below.refl _ _) _⟩
  exact h0.next (by simpa using h)
/-- a call of Take on it -/
theorem GW.call {B W : World} {g g' : Ga} {v : Value} {c : Ch} {y : Sh} {is : Bool} {n : Int} (h : GW B g v W) (hs : c.da.size ≤ 200000) (he : takeG g c = (g', (y, is), n)) (hz : g'.tx.length ≤ 262144) :
    Calls Try.prog 7 #[.pointer (some ⟨B.heap.size, 0, none⟩), .agg #[.int .i64 c.ix, .int .i64 c.tm, .int .i64 c.at_, .bool c.ls, .string c.da]] W fun e w' => ∃ ad cap v', e = .returned (.tuple #[.agg #[.int .i64 y.ix, .int .i64 y.tm, .slice ad y.ms.length cap, .string y.da], .bool is, .int .i64 n]) ∧ IntsI w' (.slice ad y.ms.length cap) y.ms ∧ GW B g' v' w' := by
  have t := gtake_any B.heap.size v g c W h.r h.b h.z (fun b e => by have := h.o b e; omega) (Nat.le_trans hs (by decide))
  rw [he] at t
  exact t.mono fun e w' ⟨ad, cap, v', e1, i1, r1, b1, o1, k1⟩ => ⟨ad, cap, v', e1, i1.1, h.take r1 b1 hz o1 k1⟩
/-- the turn of a number that is drawn -/
theorem turn_in (z : Int) (k : Nat) (hk : k ≤ 1000000) : ∃ j : Nat, j ≤ k ∧ wrap64 ((k : Int) + 1) = (k : Int) + 1 ∧ ((k : Int) + 1 == 0) = false ∧ wrap64 (z.tmod ((k : Int) + 1) + (k : Int)) = z.tmod ((k : Int) + 1) + (k : Int) ∧ wrap64 (z.tmod ((k : Int) + 1) + (k : Int) + 1) = z.tmod ((k : Int) + 1) + (k : Int) + 1 ∧ (z.tmod ((k : Int) + 1) + (k : Int) + 1).tmod ((k : Int) + 1) = (j : Int) := by
  have h1 := Int.tmod_lt_of_pos z (show (0 : Int) < (k : Int) + 1 by omega)
  have h2 : -((k : Int) + 1) < z.tmod ((k : Int) + 1) := by
    have := Int.lt_tmod_of_pos z (show (0 : Int) < (k : Int) + 1 by omega)
    omega
  generalize z.tmod ((k : Int) + 1) = r at *
  have h3 := Int.tmod_lt_of_pos (r + (k : Int) + 1) (show (0 : Int) < (k : Int) + 1 by omega)
  have h4 : 0 ≤ (r + (k : Int) + 1).tmod ((k : Int) + 1) := Int.tmod_nonneg _ (by omega)
  refine ⟨((r + (k : Int) + 1).tmod ((k : Int) + 1)).toNat, by omega, IntWalk.wrap64_in _ (by omega), by simp; omega, IntWalk.wrap64_in _ (by omega), IntWalk.wrap64_in _ (by omega), by omega⟩
theorem whole_wide (z : Int) : ∃ m : Nat, 1 ≤ m ∧ m ≤ 64 ∧ wrap64 (z.tmod 64 + 64) = z.tmod 64 + 64 ∧ wrap64 (1 + (z.tmod 64 + 64).tmod 64) = (m : Int) := by
  have h1 := Int.tmod_lt_of_pos z (show (0 : Int) < 64 by omega)
  have h2 : -64 < z.tmod 64 := Int.lt_tmod_of_pos z (show (0 : Int) < 64 by omega)
  generalize z.tmod 64 = r at *
  have h3 := Int.tmod_lt_of_pos (r + 64) (show (0 : Int) < 64 by omega)
  have h4 : 0 ≤ (r + 64).tmod 64 := Int.tmod_nonneg _ (by omega)
  refine ⟨(1 + (r + 64).tmod 64).toNat, by omega, by omega, IntWalk.wrap64_in _ (by omega), ?_⟩
  rw [IntWalk.wrap64_in _ (by omega)]
  omega
theorem cellLt {W : World} {g o : Nat} {v : Value} (h : W.cell? ⟨g, o, none⟩ = some v) : g < W.heap.size := by
  apply Nat.lt_of_not_le
  intro hn
  unfold World.cell? at h
  simp [Array.getElem?_eq_none hn] at h
end Go.Proofs.Ytpbfjcgncfdfnaa
namespace Go.Proofs.Ytpbfjcgncfdfnaa
open Go.RowKit Go.Maps
set_option linter.unusedVariables false
set_option linter.unusedSimpArgs false

set_option maxRecDepth 100000 in
set_option maxHeartbeats 4000000 in
theorem shotWhole_walk (u : Value) (x : Sh) (wide : Int) (va : Value) (ag : List Int) (w : World) (hs : IntsI w u x.ms) (hz : x.ms.length ≤ 17592186044416) (hy : x.da.size ≤ 140737488355328) (hw : (Lit.int .i64 wide).wf = true) (ha : IntsI w va ag) (hf : ∀ x ∈ ag, (Lit.int .i64 x).wf = true) (hz2 : ag.length ≤ 17592186044416) :
    Calls Try.prog 4 #[shV u x, .int .i64 wide, va] w fun e w' => e = .returned (.bool true) ∧ Below w.heap.size w w' := by
  obtain ⟨ad, cap, rfl, -⟩ := hs.form
  obtain ⟨ada, capa, rfl, hac⟩ := ha.form
  have kA := below_al (Below.refl w.heap.size w) (.cells #[.int .i64 x.ix, .int .i64 x.tm, .slice ad x.ms.length cap, .string x.da] 30)
  have hR : RowIs (w.alloc (.cells #[.int .i64 x.ix, .int .i64 x.tm, .slice ad x.ms.length cap, .string x.da] 30)) w.heap.size [.int .i64 x.ix, .int .i64 x.tm, .slice ad x.ms.length cap, .string x.da] 30 := srow w _ _
  have BX : Hid (∀ W, Below (w.alloc (.cells #[.int .i64 x.ix, .int .i64 x.tm, .slice ad x.ms.length cap, .string x.da] 30)).heap.size (w.alloc (.cells #[.int .i64 x.ix, .int .i64 x.tm, .slice ad x.ms.length cap, .string x.da] 30)) W → W.cell? ⟨w.heap.size, 0, none⟩ = some (.int .i64 x.ix) ∧ W.cell? ⟨w.heap.size, 1, none⟩ = some (.int .i64 x.tm) ∧ W.cell? ⟨w.heap.size, 2, none⟩ = some (.slice ad x.ms.length cap) ∧ W.cell? ⟨w.heap.size, 3, none⟩ = some (.string x.da)) := fun W h => by
    have r := hR.keep (h.keep (fun _ => False)) (fun h => h)
    exact ⟨r.cellAt rfl, r.cellAt rfl, r.cellAt rfl, r.cellAt rfl⟩
  have HS := hid hs
  have CK : Hid (Calls Try.prog 11 #[.agg #[.int .i64 x.ix, .int .i64 x.tm, .slice ad x.ms.length cap, .string x.da]] (w.alloc (.cells #[.int .i64 x.ix, .int .i64 x.tm, .slice ad x.ms.length cap, .string x.da] 30)) fun e w' => e = .returned (.int .i64 (chkS x)) ∧ Below (w.alloc (.cells #[.int .i64 x.ix, .int .i64 x.tm, .slice ad x.ms.length cap, .string x.da] 30)).heap.size (w.alloc (.cells #[.int .i64 x.ix, .int .i64 x.tm, .slice ad x.ms.length cap, .string x.da] 30)) w') := check_any (.slice ad x.ms.length cap) x _ (hs.next kA) (by omega)
  have RCK : Hid (∀ W, Below w.heap.size w W → Calls Try.prog 12 #[.agg #[.int .i64 x.ix, .int .i64 x.tm, .slice ad x.ms.length cap, .string x.da]] W fun e w' => e = .returned (.int .i64 (chkS x)) ∧ Below W.heap.size W w') := fun W hW => rcheck_any (.slice ad x.ms.length cap) x W (hs.next hW) (by omega)
  have RF : Hid (∀ W, Calls Try.prog 10 #[.agg #[.int .i64 x.ix, .int .i64 x.tm, .slice ad x.ms.length cap, .string x.da]] W fun e w' => e = .returned (.agg #[.int .i64 x.ix, .int .i64 x.tm, .slice ad x.ms.length cap, .string x.da]) ∧ Below W.heap.size W w') := fun W => refOf_any ad x.ms.length cap x W
  have PC : Hid (∀ W, Below w.heap.size w W → chkS x = 0 → ∀ m : Nat, 1 ≤ m → m ≤ 64 → Calls Try.prog 13 #[.agg #[.int .i64 x.ix, .int .i64 x.tm, .slice ad x.ms.length cap, .string x.da], .int .i64 (m : Int)] W fun e w' => ∃ u, e = .returned (.tuple #[u, .int .i64 0]) ∧ w'.ownsRow W.heap.size 34 5 u (nck (encS x) m) (cksC (cks x (encS x) m (nck (encS x) m))) ∧ Below W.heap.size W w') := fun W hW hc m h1 h2 => pchunks_ok (.slice ad x.ms.length cap) x m W (hs.next hW) (by omega) hc h1 (by omega)
  have AW := hid awake7
  have HKA := hid kA
  have HAC := hid hac
  have HF := hid hf
  have HML : Hid (x.ms.length ≤ 9223372036854775807) := by show _ ≤ _; omega
  obtain ⟨m, hm1, hm2, hwa, hwb⟩ := whole_wide wide
  clear hs hz hw kA hR ha hac hf
  unfold shV
  by_cases h3 : 1000 < x.da.size
  · have h3i : (1000 : Int) < (x.da.size : Int) := by omega
    clear CK RCK RF PC HS HAC HF
    go_enter Try.func4, Try.ntmps4
    go_wp2_with fail
    refine (AW.out _).mono ?_
    rintro e w2 ⟨rfl, b2⟩
    obtain ⟨c0, c1, c2, c3⟩ := BX.out w2 b2
    have HB2 := hid (below_on HKA.out b2)
    clear AW b2 BX HKA
    go_wp2_with fail
    go_ret
    exact ⟨rfl, HB2.out⟩
  have h3i : ¬ (1000 : Int) < (x.da.size : Int) := by omega
  have hd3 : decide ((1000 : Int) < (x.da.size : Int)) = false := decide_eq_false h3i
  by_cases hc : chkS x = 0
  · rw [hc] at CK
    have PC1 := hid (fun W hW => PC.out W hW hc m hm1 hm2)
    have HP := hid (whP x m hm1 hm2 hc)
    have HCT : Hid (∀ (k : Nat), k < nck (encS x) m → ∀ (B0 : Nat) (W : World) (a : Option Addr) (c : Nat), W.ownsRow B0 34 5 (.slice a (nck (encS x) m) c) (nck (encS x) m) (cksC (cks x (encS x) m (nck (encS x) m))) → ∃ g, a = some ⟨g, 0, none⟩ ∧ g < W.heap.size ∧ W.cell? ⟨g, k * 5, none⟩ = some (.int .i64 x.ix) ∧ W.cell? ⟨g, k * 5 + 1, none⟩ = some (.int .i64 x.tm) ∧ W.cell? ⟨g, k * 5 + 2, none⟩ = some (.int .i64 ((k * m : Nat) : Int)) ∧ W.cell? ⟨g, k * 5 + 3, none⟩ = some (.bool (lsk (encS x) m k)) ∧ W.cell? ⟨g, k * 5 + 4, none⟩ = some (.string (exk (encS x) m k))) := fun k hk B0 W a c hr => by
      have hr0 := hr
      rcases hr.2 with ⟨e0, h⟩ | ⟨g, c', cur, e0, hg, hrest⟩
      · omega
      · injection e0 with e1 e2 e3
        subst e1 e3
        have hl : k < (cks x (encS x) m (nck (encS x) m)).length := by rw [cks_len]; exact hk
        have hq : (cks x (encS x) m (nck (encS x) m))[k] = ckAt x (encS x) m k := by simp [cks]
        have gg : ∀ j u', j < 5 → (ckC (ckAt x (encS x) m k))[j]? = some u' → W.cell? ⟨g, k * 5 + j, none⟩ = some u' := fun j u' hj hu => by
          refine grow_at hr0 ?_
          rw [cksC_get _ k hl j hj, hq]
          exact hu
        exact ⟨g, rfl, cellLt (gg 0 _ (by omega) rfl), gg 0 _ (by omega) rfl, gg 1 _ (by omega) rfl, gg 2 _ (by omega) rfl, gg 3 _ (by omega) rfl, gg 4 _ (by omega) rfl⟩
    have HWT : Hid (wrap64 (x.tm + 1) = x.tm + 1) := by
      have h := (chk_ok hc).2.1
      unfold wthn at h
      exact IntWalk.wrap64_in _ (by simp at h; omega)
    have hp0 := HP.out.pos
    have hn2 := HP.out.le
    clear PC RCK h3 hm1 hm2
    generalize nck (encS x) m = n at *
    generalize cksC (cks x (encS x) m n) = CC at *
    generalize gk x.ix x.tm (encS x) m = G at *
    generalize lsk (encS x) m = ls at *
    generalize hA : (fun k => ((k * m : Nat) : Int) + ((exk (encS x) m k).size : Int)) = A at *
    clear hA
    generalize exk (encS x) m = ex at *
    generalize hP : (fun k => ((k * m : Nat) : Int)) = P at *
    replace HCT : Hid (∀ (k : Nat), k < n → ∀ (B0 : Nat) (W : World) (a : Option Addr) (c : Nat), W.ownsRow B0 34 5 (.slice a n c) n CC → ∃ g, a = some ⟨g, 0, none⟩ ∧ g < W.heap.size ∧ W.cell? ⟨g, k * 5, none⟩ = some (.int .i64 x.ix) ∧ W.cell? ⟨g, k * 5 + 1, none⟩ = some (.int .i64 x.tm) ∧ W.cell? ⟨g, k * 5 + 2, none⟩ = some (.int .i64 (P k)) ∧ W.cell? ⟨g, k * 5 + 3, none⟩ = some (.bool (ls k)) ∧ W.cell? ⟨g, k * 5 + 4, none⟩ = some (.string (ex k))) := by subst hP; exact HCT
    clear hP
    have hn0 : ((n : Int) == 0) = false := by simp; omega
    have hn0' : (n == 0) = false := by simp; omega
    clear hc
    go_enter Try.func4, Try.ntmps4
    go_wp2_with fail
    refine CK.out.mono ?_
    rintro e w1 ⟨rfl, b1⟩
    obtain ⟨c0, c1, c2, c3⟩ := BX.out w1 b1
    have HB1 := hid (below_on HKA.out b1)
    have HX1 := hid b1
    have P1 := hid (PC1.out w1 HB1.out)
    clear CK b1 PC1 HKA
    go_wp2_with fail
    refine P1.out.mono ?_
    rintro e B ⟨u2, rfl, hr2, b2⟩
    obtain ⟨ad2, cap2, rfl⟩ := row_form hr2
    have HBB := hid (below_on HB1.out b2)
    have HXB := hid (below_on HX1.out b2)
    obtain ⟨gc, rfl, hgc, -⟩ := HCT.out 0 hp0 _ B ad2 cap2 hr2
    have HCH : Hid (∀ (k : Nat), k < n → ∀ W, Below B.heap.size B W → W.cell? ⟨gc, k * 5, none⟩ = some (.int .i64 x.ix) ∧ W.cell? ⟨gc, k * 5 + 1, none⟩ = some (.int .i64 x.tm) ∧ W.cell? ⟨gc, k * 5 + 2, none⟩ = some (.int .i64 (P k)) ∧ W.cell? ⟨gc, k * 5 + 3, none⟩ = some (.bool (ls k)) ∧ W.cell? ⟨gc, k * 5 + 4, none⟩ = some (.string (ex k))) := fun k hk W hW => by
      obtain ⟨g0, e, hg, z0, z1, z2, z3, z4⟩ := HCT.out k hk _ B _ cap2 hr2
      injection e with e; injection e with e; subst e
      exact ⟨(hW.cell (p := ⟨gc, k * 5, none⟩) hg).trans z0, (hW.cell (p := ⟨gc, k * 5 + 1, none⟩) hg).trans z1, (hW.cell (p := ⟨gc, k * 5 + 2, none⟩) hg).trans z2, (hW.cell (p := ⟨gc, k * 5 + 3, none⟩) hg).trans z3, (hW.cell (p := ⟨gc, k * 5 + 4, none⟩) hg).trans z4⟩
    replace BX : Hid (∀ W, Below B.heap.size B W → W.cell? ⟨w.heap.size, 0, none⟩ = some (.int .i64 x.ix) ∧ W.cell? ⟨w.heap.size, 1, none⟩ = some (.int .i64 x.tm) ∧ W.cell? ⟨w.heap.size, 2, none⟩ = some (.slice ad x.ms.length cap) ∧ W.cell? ⟨w.heap.size, 3, none⟩ = some (.string x.da)) := fun W hW => BX.out W (below_on HXB.out hW)
    have HAG : Hid (∀ (k : Nat) (hk : k < ag.length) W, Below B.heap.size B W → ∃ bb oo, ada = some ⟨bb, oo, none⟩ ∧ W.cell? ⟨bb, oo + k, none⟩ = some (.int .i64 ag[k])) := fun k hk W hW => by
      obtain ⟨bb, oo, e, h1, h2⟩ := HAC.out k hk
      exact ⟨bb, oo, e, ((below_on HBB.out hW).cell (p := ⟨bb, oo + k, none⟩) h1).trans h2⟩
    clear P1 hr2 b2 HB1 HX1 HCT HXB c0 c1 c2 c3 HAC hgc hp0
    go_wp2_with fail
    refine (newgather_any _).mono ?_
    rintro e w3 ⟨rfl, rfl⟩
    go_wp2_with fail
    refine (AW.out _).mono ?_
    rintro e w4 ⟨rfl, b4⟩
    have M0 := hid (gw_made B w4 (by simpa using b4))
    clear b4 AW
    go_wp2_with fail
    go_loopw [10] (fun i wr => ∃ (k : Nat) (g : Ga) (v : Value), k ≤ n ∧ i = .int .i64 (k : Int) ∧ Hid (k < n → g = G k) ∧ Hid (GW B g v wr)) (fun i _ => n - (intOf i).toNat)
    case atStart => exact ⟨0, ga0, .slice none 0 0, Nat.zero_le _, rfl, fun _ => HP.out.g0.symm, M0⟩
    case round =>
      obtain ⟨k, g, v, hk, rfl, HGk, HG⟩ := hrel
      clear M0
      by_cases hlt : k < n
      · have hk1 : (k : Int) < (n : Int) := by omega
        have hd1 : decide ((k : Int) < (n : Int)) = true := decide_eq_true hk1
        have hk0 : (0 : Int) ≤ (k : Int) := by omega
        have hwk : wrap64 ((k : Int) + 1) = ((k + 1 : Nat) : Int) := by rw [IntWalk.wrap64_in _ (by omega)]; omega
        have hwn : wrap64 ((n : Int) - 1) = (n : Int) - 1 := IntWalk.wrap64_in _ (by omega)
        have hwn2 : IntKind.i64.wrap ((n : Int) - 1) = (n : Int) - 1 := by rw [IntKind.wrap_i64]; omega
        obtain ⟨z0, z1, z2, z3, z4⟩ := HCH.out k hlt _ HG.out.bl
        obtain rfl : g = G k := HGk.out hlt
        have HLT := hid hlt
        by_cases hla : k + 1 = n
        · have T1 := hid (HG.out.call (c := ⟨x.ix, x.tm, P k, ls k, ex k⟩) (HP.out.ez k) (HP.out.last k hla) (by simp [ga0]))
          simp only at T1
          have hq : ((k : Int) == (n : Int) - 1) = true := by simp; omega
          have RF1 : Hid (∀ ad1 cap1 W, Calls Try.prog 10 #[.agg #[.int .i64 x.ix, .int .i64 x.tm, .slice ad1 x.ms.length cap1, .string x.da]] W fun e w' => e = .returned (.agg #[.int .i64 x.ix, .int .i64 x.tm, .slice ad1 x.ms.length cap1, .string x.da]) ∧ Below W.heap.size W w') := fun ad1 cap1 W => refOf_any ad1 x.ms.length cap1 x W
          clear hlt hk HGk HP HAG HCH HG HF hn0 hn0'
          generalize P k = pk at *
          generalize ls k = lk at *
          generalize ex k = xk at *
          go_wp2_with fail
          refine T1.out.mono ?_
          rintro e w5 ⟨ad1, cap1, v', rfl, i1, gw⟩
          have M1 := hid (gw.next (below_al (Below.refl _ _) (.cells #[.int .i64 x.ix, .int .i64 x.tm, .slice ad1 x.ms.length cap1, .string x.da] 30)))
          have I1 := hid (i1.next (below_al (Below.refl _ _) (.cells #[.int .i64 x.ix, .int .i64 x.tm, .slice ad1 x.ms.length cap1, .string x.da] 30)))
          have R1 := hid (srow w5 [.int .i64 x.ix, .int .i64 x.tm, .slice ad1 x.ms.length cap1, .string x.da] 30)
          clear i1 gw T1 z0 z1 z2 z3 z4
          go_upto_region 12 with fail
          generalize w5.alloc (.cells #[.int .i64 x.ix, .int .i64 x.tm, .slice ad1 x.ms.length cap1, .string x.da] 30) = Z at *
          have HSAM : Hid (∀ W, Below Z.heap.size Z W → Calls Try.prog 9 #[.agg #[.int .i64 x.ix, .int .i64 x.tm, .slice ad1 x.ms.length cap1, .string x.da], .agg #[.int .i64 x.ix, .int .i64 x.tm, .slice ad x.ms.length cap, .string x.da]] W (fun e w' => e = .returned (.bool true) ∧ Below W.heap.size W w')) := fun W hW => by
            have h := rsame_any (.slice ad1 x.ms.length cap1) (.slice ad x.ms.length cap) x x W (I1.out.next hW) (HS.out.next (below_on HBB.out (M1.out.next hW).bl)) HML.out
            rw [show smS x x = true from by unfold smS; simp] at h
            exact h
          have ZC : Hid (∀ W, Below Z.heap.size Z W → (fun w' => w'.cell? ⟨w.heap.size, 0, none⟩ = some (.int .i64 x.ix) ∧ w'.cell? ⟨w.heap.size, 1, none⟩ = some (.int .i64 x.tm) ∧ w'.cell? ⟨w.heap.size, 2, none⟩ = some (.slice ad x.ms.length cap) ∧ w'.cell? ⟨w.heap.size, 3, none⟩ = some (.string x.da) ∧ w'.cell? ⟨w5.heap.size, 0, none⟩ = some (.int .i64 x.ix) ∧ w'.cell? ⟨w5.heap.size, 1, none⟩ = some (.int .i64 x.tm) ∧ w'.cell? ⟨w5.heap.size, 2, none⟩ = some (.slice ad1 x.ms.length cap1) ∧ w'.cell? ⟨w5.heap.size, 3, none⟩ = some (.string x.da)) W) := fun W hW => by
            have q := R1.out.keep (hW.keep (fun _ => False)) (fun h => h)
            obtain ⟨y0, y1, y2, y3⟩ := BX.out W (M1.out.next hW).bl
            exact ⟨y0, y1, y2, y3, q.cellAt rfl, q.cellAt rfl, q.cellAt rfl, q.cellAt rfl⟩
          have BZ := hid (Below.refl Z.heap.size Z).drew
          clear R1 I1 BX HS
          refine wp_region_held_drew (S := (fun w' => w'.cell? ⟨w.heap.size, 0, none⟩ = some (.int .i64 x.ix) ∧ w'.cell? ⟨w.heap.size, 1, none⟩ = some (.int .i64 x.tm) ∧ w'.cell? ⟨w.heap.size, 2, none⟩ = some (.slice ad x.ms.length cap) ∧ w'.cell? ⟨w.heap.size, 3, none⟩ = some (.string x.da) ∧ w'.cell? ⟨w5.heap.size, 0, none⟩ = some (.int .i64 x.ix) ∧ w'.cell? ⟨w5.heap.size, 1, none⟩ = some (.int .i64 x.tm) ∧ w'.cell? ⟨w5.heap.size, 2, none⟩ = some (.slice ad1 x.ms.length cap1) ∧ w'.cell? ⟨w5.heap.size, 3, none⟩ = some (.string x.da))) (by kernel_rfl) (ZC.out _ BZ.out) (fun hHeld => ?_)
          refine wpAnyH_take (i := 0) (v := ?vv1) rfl (by kernel_rfl) (by kernel_rfl) (by kernel_rfl) (fun _ _ _ h => h) (Or.inl ⟨by rfl, ?hy1⟩) (by assumption) ?rest1
          case hy1 => (intro w hSw; (try dsimp only at hSw); go_simp; first | done | with_reducible rfl)
          try simp only [Act.put, List.getElem_toArray, List.getElem_cons_succ, List.getElem_cons_zero, List.setIfInBounds_toArray, List.set_cons_zero, List.set_cons_succ]
          refine wpAnyH_take (i := 1) (v := ?vv2) rfl (by kernel_rfl) (by kernel_rfl) (by kernel_rfl) (fun _ _ _ h => h) (Or.inl ⟨by rfl, ?hy2⟩) (by assumption) ?rest2
          case hy2 => (intro w hSw; (try dsimp only at hSw); go_simp; first | done | with_reducible rfl)
          try simp only [Act.put, List.getElem_toArray, List.getElem_cons_succ, List.getElem_cons_zero, List.setIfInBounds_toArray, List.set_cons_zero, List.set_cons_succ]
          refine wpAnyH_take (i := 2) (v := ?vv3) rfl (by kernel_rfl) (by kernel_rfl) (by kernel_rfl) (fun _ _ _ h => h) (Or.inl ⟨by rfl, ?hy3⟩) (by assumption) ?rest3
          case hy3 => (intro w hSw; (try dsimp only at hSw); go_simp; first | done | with_reducible rfl)
          try simp only [Act.put, List.getElem_toArray, List.getElem_cons_succ, List.getElem_cons_zero, List.setIfInBounds_toArray, List.set_cons_zero, List.set_cons_succ]
          refine wpAnyH_take (i := 3) (v := ?vv4) rfl (by kernel_rfl) (by kernel_rfl) (by kernel_rfl) (fun _ _ _ h => h) (Or.inl ⟨by rfl, ?hy4⟩) (by assumption) ?rest4
          case hy4 => (intro w hSw; (try dsimp only at hSw); go_simp; first | done | with_reducible rfl)
          try simp only [Act.put, List.getElem_toArray, List.getElem_cons_succ, List.getElem_cons_zero, List.setIfInBounds_toArray, List.set_cons_zero, List.set_cons_succ]
          refine wpAnyH_take (i := 4) (v := ?vv5) rfl (by kernel_rfl) (by kernel_rfl) (by kernel_rfl) (fun _ _ _ h => h) (Or.inl ⟨by rfl, ?hy5⟩) (by assumption) ?rest5
          case hy5 => (intro w hSw; (try dsimp only at hSw); go_simp; first | done | with_reducible rfl)
          try simp only [Act.put, List.getElem_toArray, List.getElem_cons_succ, List.getElem_cons_zero, List.setIfInBounds_toArray, List.set_cons_zero, List.set_cons_succ]
          refine wpAnyH_take (i := 5) (v := ?vv6) rfl (by kernel_rfl) (by kernel_rfl) (by kernel_rfl) (fun _ _ _ h => h) (Or.inl ⟨by rfl, ?hy6⟩) (by assumption) ?rest6
          case hy6 => (intro w hSw; (try dsimp only at hSw); go_simp; first | done | with_reducible rfl)
          try simp only [Act.put, List.getElem_toArray, List.getElem_cons_succ, List.getElem_cons_zero, List.setIfInBounds_toArray, List.set_cons_zero, List.set_cons_succ]
          refine wpAnyH_take (i := 6) (v := ?vv7) rfl (by kernel_rfl) (by kernel_rfl) (by kernel_rfl) (fun _ _ _ h => h) (Or.inl ⟨by rfl, ?hy7⟩) (by assumption) ?rest7
          case hy7 => (intro w hSw; (try dsimp only at hSw); go_simp; first | done | with_reducible rfl)
          try simp only [Act.put, List.getElem_toArray, List.getElem_cons_succ, List.getElem_cons_zero, List.setIfInBounds_toArray, List.set_cons_zero, List.set_cons_succ]
          refine wpAnyH_take (i := 7) (v := ?vv8) rfl (by kernel_rfl) (by kernel_rfl) (by kernel_rfl) (fun _ _ _ h => h) (Or.inl ⟨by rfl, ?hy8⟩) (by assumption) ?rest8
          case hy8 => (intro w hSw; (try dsimp only at hSw); go_simp; first | done | with_reducible rfl)
          try simp only [Act.put, List.getElem_toArray, List.getElem_cons_succ, List.getElem_cons_zero, List.setIfInBounds_toArray, List.set_cons_zero, List.set_cons_succ]
          refine wpAnyH_take (i := 8) (v := ?vv9) rfl (by kernel_rfl) (by kernel_rfl) (by kernel_rfl) (fun _ _ _ h => h) (Or.inl ⟨by rfl, ?hy9⟩) (by assumption) ?rest9
          case hy9 => (intro w hSw; (try dsimp only at hSw); go_simp; first | done | with_reducible rfl)
          try simp only [Act.put, List.getElem_toArray, List.getElem_cons_succ, List.getElem_cons_zero, List.setIfInBounds_toArray, List.set_cons_zero, List.set_cons_succ]
          refine wpAnyH_take (i := 9) (v := ?vv10) rfl (by kernel_rfl) (by kernel_rfl) (by kernel_rfl) (fun _ _ _ h => h) (Or.inl ⟨by rfl, ?hy10⟩) (by assumption) ?rest10
          case hy10 => (intro w hSw; (try dsimp only at hSw); go_simp; first | done | with_reducible rfl)
          try simp only [Act.put, List.getElem_toArray, List.getElem_cons_succ, List.getElem_cons_zero, List.setIfInBounds_toArray, List.set_cons_zero, List.set_cons_succ]
          refine wpAnyH_take (i := 10) (v := ?vv11) rfl (by kernel_rfl) (by kernel_rfl) (by kernel_rfl) (fun _ _ _ h => h) (Or.inl ⟨by rfl, ?hy11⟩) (by assumption) ?rest11
          case hy11 => (intro w hSw; (try dsimp only at hSw); go_simp; first | done | with_reducible rfl)
          try simp only [Act.put, List.getElem_toArray, List.getElem_cons_succ, List.getElem_cons_zero, List.setIfInBounds_toArray, List.set_cons_zero, List.set_cons_succ]
          refine wpAnyH_take (i := 12) (v := ?vv12) rfl (by kernel_rfl) (by kernel_rfl) (by kernel_rfl) (fun _ _ _ h => h) (Or.inl ⟨by rfl, ?hy12⟩) (by assumption) ?rest12
          case hy12 => (intro w hSw; (try dsimp only at hSw); go_simp; first | done | with_reducible rfl)
          try simp only [Act.put, List.getElem_toArray, List.getElem_cons_succ, List.getElem_cons_zero, List.setIfInBounds_toArray, List.set_cons_zero, List.set_cons_succ]
          refine wpAnyH_ready (rs := [11]) (by kernel_rfl) (by simp) ?_
          refine AllReadyH.cons rfl (fun K hK => ?_) AllReadyH.nil
          go_simp
          refine (RF1.out ad1 cap1 _).mono ?_
          rintro e wA ⟨rfl, bA⟩
          have BA := hid (below_on BZ.out bA)
          clear bA
          go_wp2_with fail
          refine hK.out _ _ (ZC.out _ BA.out) (fun hHeld => ?_)
          clear hK K
          try simp only [Act.put, List.getElem_toArray, List.getElem_cons_succ, List.getElem_cons_zero, List.setIfInBounds_toArray, List.set_cons_zero, List.set_cons_succ]
          refine wpAnyH_ready (rs := [13]) (by kernel_rfl) (by simp) ?_
          refine AllReadyH.cons rfl (fun K hK => ?_) AllReadyH.nil
          go_simp
          refine (RF.out _).mono ?_
          rintro e wB ⟨rfl, bB⟩
          have BB := hid (below_on BA.out bB)
          clear bB
          go_wp2_with fail
          refine hK.out _ _ (ZC.out _ BB.out) (fun hHeld => ?_)
          clear hK K
          try simp only [Act.put, List.getElem_toArray, List.getElem_cons_succ, List.getElem_cons_zero, List.setIfInBounds_toArray, List.set_cons_zero, List.set_cons_succ]
          refine wpAnyH_ready (rs := [14]) (by kernel_rfl) (by simp) ?_
          refine AllReadyH.cons rfl (fun K hK => ?_) AllReadyH.nil
          go_simp
          refine (HSAM.out _ BB.out).mono ?_
          rintro e wC ⟨rfl, bC⟩
          have BC := hid (below_on BB.out bC)
          clear bC
          go_wp2_with fail
          refine hK.out _ _ (ZC.out _ BC.out) (fun hHeld => ?_)
          clear hK K
          try simp only [Act.put, List.getElem_toArray, List.getElem_cons_succ, List.getElem_cons_zero, List.setIfInBounds_toArray, List.set_cons_zero, List.set_cons_succ]
          refine wpAnyH_take (i := 15) (v := ?vv13) rfl (by kernel_rfl) (by kernel_rfl) (by kernel_rfl) (fun _ _ _ h => h) (Or.inl ⟨by rfl, ?hy13⟩) (by assumption) ?rest13
          case hy13 => (intro w hSw; (try dsimp only at hSw); go_simp; first | done | with_reducible rfl)
          try simp only [Act.put, List.getElem_toArray, List.getElem_cons_succ, List.getElem_cons_zero, List.setIfInBounds_toArray, List.set_cons_zero, List.set_cons_succ]
          refine wpAnyH_take (i := 16) (v := ?vv14) rfl (by kernel_rfl) (by kernel_rfl) (by kernel_rfl) (fun _ _ _ h => h) (Or.inl ⟨by rfl, ?hy14⟩) (by assumption) ?rest14
          case hy14 => (intro w hSw; (try dsimp only at hSw); go_simp; first | done | with_reducible rfl)
          try simp only [Act.put, List.getElem_toArray, List.getElem_cons_succ, List.getElem_cons_zero, List.setIfInBounds_toArray, List.set_cons_zero, List.set_cons_succ]
          refine wpAnyH_take (i := 17) (v := ?vv15) rfl (by kernel_rfl) (by kernel_rfl) (by kernel_rfl) (fun _ _ _ h => h) (Or.inl ⟨by rfl, ?hy15⟩) (by assumption) ?rest15
          case hy15 => (intro w hSw; (try dsimp only at hSw); go_simp; first | done | with_reducible rfl)
          try simp only [Act.put, List.getElem_toArray, List.getElem_cons_succ, List.getElem_cons_zero, List.setIfInBounds_toArray, List.set_cons_zero, List.set_cons_succ]
          refine wpAnyH_take (i := 18) (v := ?vv16) rfl (by kernel_rfl) (by kernel_rfl) (by kernel_rfl) (fun _ _ _ h => h) (Or.inl ⟨by rfl, ?hy16⟩) (by assumption) ?rest16
          case hy16 => (intro w hSw; (try dsimp only at hSw); go_simp; first | done | with_reducible rfl)
          try simp only [Act.put, List.getElem_toArray, List.getElem_cons_succ, List.getElem_cons_zero, List.setIfInBounds_toArray, List.set_cons_zero, List.set_cons_succ]
          refine wpAnyH_take (i := 19) (v := ?vv17) rfl (by kernel_rfl) (by kernel_rfl) (by kernel_rfl) (fun _ _ _ h => h) (Or.inl ⟨by rfl, ?hy17⟩) (by assumption) ?rest17
          case hy17 => (intro w hSw; (try dsimp only at hSw); go_simp; first | done | with_reducible rfl)
          try simp only [Act.put, List.getElem_toArray, List.getElem_cons_succ, List.getElem_cons_zero, List.setIfInBounds_toArray, List.set_cons_zero, List.set_cons_succ]
          refine wpAnyH_take (i := 20) (v := ?vv18) rfl (by kernel_rfl) (by kernel_rfl) (by kernel_rfl) (fun _ _ _ h => h) (Or.inl ⟨by rfl, ?hy18⟩) (by assumption) ?rest18
          case hy18 => (intro w hSw; (try dsimp only at hSw); go_simp; first | done | with_reducible rfl)
          try simp only [Act.put, List.getElem_toArray, List.getElem_cons_succ, List.getElem_cons_zero, List.setIfInBounds_toArray, List.set_cons_zero, List.set_cons_succ]
          refine wpAnyH_take (i := 21) (v := ?vv19) rfl (by kernel_rfl) (by kernel_rfl) (by kernel_rfl) (fun _ _ _ h => h) (Or.inl ⟨by rfl, ?hy19⟩) (by assumption) ?rest19
          case hy19 => (intro w hSw; (try dsimp only at hSw); go_simp; first | done | with_reducible rfl)
          try simp only [Act.put, List.getElem_toArray, List.getElem_cons_succ, List.getElem_cons_zero, List.setIfInBounds_toArray, List.set_cons_zero, List.set_cons_succ]
          refine wpAnyH_take (i := 22) (v := undef) rfl (by kernel_rfl) (by kernel_rfl) (by kernel_rfl) (fun _ _ _ h => h) (Or.inr ⟨by rfl, rfl⟩) (by assumption) ?_
          try simp only [Act.put, List.getElem_toArray, List.getElem_cons_succ, List.getElem_cons_zero, List.setIfInBounds_toArray, List.set_cons_zero, List.set_cons_succ]
          refine wpAnyH_take (i := 23) (v := undef) rfl (by kernel_rfl) (by kernel_rfl) (by kernel_rfl) (fun _ _ _ h => h) (Or.inr ⟨by rfl, rfl⟩) (by assumption) ?_
          try simp only [Act.put, List.getElem_toArray, List.getElem_cons_succ, List.getElem_cons_zero, List.setIfInBounds_toArray, List.set_cons_zero, List.set_cons_succ]
          refine wpAnyH_take (i := 24) (v := undef) rfl (by kernel_rfl) (by kernel_rfl) (by kernel_rfl) (fun _ _ _ h => h) (Or.inr ⟨by rfl, rfl⟩) (by assumption) ?_
          try simp only [Act.put, List.getElem_toArray, List.getElem_cons_succ, List.getElem_cons_zero, List.setIfInBounds_toArray, List.set_cons_zero, List.set_cons_succ]
          refine wpAnyH_take (i := 25) (v := undef) rfl (by kernel_rfl) (by kernel_rfl) (by kernel_rfl) (fun _ _ _ h => h) (Or.inr ⟨by rfl, rfl⟩) (by assumption) ?_
          try simp only [Act.put, List.getElem_toArray, List.getElem_cons_succ, List.getElem_cons_zero, List.setIfInBounds_toArray, List.set_cons_zero, List.set_cons_succ]
          refine wpAnyH_take (i := 26) (v := undef) rfl (by kernel_rfl) (by kernel_rfl) (by kernel_rfl) (fun _ _ _ h => h) (Or.inr ⟨by rfl, rfl⟩) (by assumption) ?_
          try simp only [Act.put, List.getElem_toArray, List.getElem_cons_succ, List.getElem_cons_zero, List.setIfInBounds_toArray, List.set_cons_zero, List.set_cons_succ]
          refine wpAnyH_take (i := 27) (v := undef) rfl (by kernel_rfl) (by kernel_rfl) (by kernel_rfl) (fun _ _ _ h => h) (Or.inr ⟨by rfl, rfl⟩) (by assumption) ?_
          try simp only [Act.put, List.getElem_toArray, List.getElem_cons_succ, List.getElem_cons_zero, List.setIfInBounds_toArray, List.set_cons_zero, List.set_cons_succ]
          refine wpAnyH_take (i := 28) (v := undef) rfl (by kernel_rfl) (by kernel_rfl) (by kernel_rfl) (fun _ _ _ h => h) (Or.inr ⟨by rfl, rfl⟩) (by assumption) ?_
          try simp only [Act.put, List.getElem_toArray, List.getElem_cons_succ, List.getElem_cons_zero, List.setIfInBounds_toArray, List.set_cons_zero, List.set_cons_succ]
          refine wpAnyH_take (i := 29) (v := undef) rfl (by kernel_rfl) (by kernel_rfl) (by kernel_rfl) (fun _ _ _ h => h) (Or.inr ⟨by rfl, rfl⟩) (by assumption) ?_
          try simp only [Act.put, List.getElem_toArray, List.getElem_cons_succ, List.getElem_cons_zero, List.setIfInBounds_toArray, List.set_cons_zero, List.set_cons_succ]
          refine wpAnyH_take (i := 30) (v := undef) rfl (by kernel_rfl) (by kernel_rfl) (by kernel_rfl) (fun _ _ _ h => h) (Or.inr ⟨by rfl, rfl⟩) (by assumption) ?_
          try simp only [Act.put, List.getElem_toArray, List.getElem_cons_succ, List.getElem_cons_zero, List.setIfInBounds_toArray, List.set_cons_zero, List.set_cons_succ]
          refine wpAnyH_take (i := 31) (v := undef) rfl (by kernel_rfl) (by kernel_rfl) (by kernel_rfl) (fun _ _ _ h => h) (Or.inr ⟨by rfl, rfl⟩) (by assumption) ?_
          try simp only [Act.put, List.getElem_toArray, List.getElem_cons_succ, List.getElem_cons_zero, List.setIfInBounds_toArray, List.set_cons_zero, List.set_cons_succ]
          refine wpAnyH_take (i := 32) (v := undef) rfl (by kernel_rfl) (by kernel_rfl) (by kernel_rfl) (fun _ _ _ h => h) (Or.inr ⟨by rfl, rfl⟩) (by assumption) ?_
          try simp only [Act.put, List.getElem_toArray, List.getElem_cons_succ, List.getElem_cons_zero, List.setIfInBounds_toArray, List.set_cons_zero, List.set_cons_succ]
          refine wpAnyH_take (i := 33) (v := undef) rfl (by kernel_rfl) (by kernel_rfl) (by kernel_rfl) (fun _ _ _ h => h) (Or.inr ⟨by rfl, rfl⟩) (by assumption) ?_
          try simp only [Act.put, List.getElem_toArray, List.getElem_cons_succ, List.getElem_cons_zero, List.setIfInBounds_toArray, List.set_cons_zero, List.set_cons_succ]
          refine wpAnyH_take (i := 34) (v := undef) rfl (by kernel_rfl) (by kernel_rfl) (by kernel_rfl) (fun _ _ _ h => h) (Or.inr ⟨by rfl, rfl⟩) (by assumption) ?_
          try simp only [Act.put, List.getElem_toArray, List.getElem_cons_succ, List.getElem_cons_zero, List.setIfInBounds_toArray, List.set_cons_zero, List.set_cons_succ]
          refine wpAnyH_take (i := 35) (v := undef) rfl (by kernel_rfl) (by kernel_rfl) (by kernel_rfl) (fun _ _ _ h => h) (Or.inr ⟨by rfl, rfl⟩) (by assumption) ?_
          try simp only [Act.put, List.getElem_toArray, List.getElem_cons_succ, List.getElem_cons_zero, List.setIfInBounds_toArray, List.set_cons_zero, List.set_cons_succ]
          refine wpAnyH_take (i := 36) (v := ?vv20) rfl (by kernel_rfl) (by kernel_rfl) (by kernel_rfl) (fun _ _ _ h => h) (Or.inl ⟨by rfl, ?hy20⟩) (by assumption) ?rest20
          case hy20 => (intro w hSw; (try dsimp only at hSw); go_simp; first | done | with_reducible rfl)
          try simp only [Act.put, List.getElem_toArray, List.getElem_cons_succ, List.getElem_cons_zero, List.setIfInBounds_toArray, List.set_cons_zero, List.set_cons_succ]
          refine wpAnyH_take (i := 37) (v := ?vv21) rfl (by kernel_rfl) (by kernel_rfl) (by kernel_rfl) (fun _ _ _ h => h) (Or.inl ⟨by rfl, ?hy21⟩) (by assumption) ?rest21
          case hy21 => (intro w hSw; (try dsimp only at hSw); go_simp; first | done | with_reducible rfl)
          try simp only [Act.put, List.getElem_toArray, List.getElem_cons_succ, List.getElem_cons_zero, List.setIfInBounds_toArray, List.set_cons_zero, List.set_cons_succ]
          refine wpAnyH_done (by kernel_rfl) ?_ _
          have ME := hid (M1.out.next BC.out)
          clear RF1 RF HSAM ZC BZ BA BB BC M1
          go_wp2_with fail
          have hlt := HLT.out
          exact ⟨⟨k + 1, ga0, v', hlt, by first | rfl | (rw [hwk]), fun h => absurd h (by omega), ME⟩, by simp [intOf]; omega⟩
        · have hla2 : k + 1 < n := by omega
          have T1 := hid (HG.out.call (c := ⟨x.ix, x.tm, P k, ls k, ex k⟩) (HP.out.ez k) (HP.out.next k hla2) (HP.out.z (k + 1)))
          simp only [sh0, List.length_nil] at T1
          have hq : ((k : Int) == (n : Int) - 1) = false := by simp; omega
          have hwp := HP.out.wr k hlt
          have hwp2 : IntKind.i64.wrap (P k + ((ex k).size : Int)) = A k := HP.out.wr2 k hlt
          have HOL := hid (fun j (h1 : 1 ≤ j) (h2 : j ≤ k) => HP.out.old j k h1 h2 hla2)
          have HOT := hid (HP.out.oth k hla2)
          have HCK : Hid (∀ W, Below B.heap.size B W → (fun w' => w'.cell? ⟨gc, k * 5 + 2, none⟩ = some (.int .i64 (P k)) ∧ w'.cell? ⟨gc, k * 5 + 4, none⟩ = some (.string (ex k))) W) := fun W hW => by
            obtain ⟨y0, y1, y2, y3, y4⟩ := HCH.out k hlt W hW
            exact ⟨y2, y4⟩
          have HZK := hid (HP.out.z (k + 1))
          have HEZ := hid HP.out.ez
          have HCJ : Hid (∀ j, j ≤ k → ∀ W, Below B.heap.size B W → W.cell? ⟨gc, j * 5, none⟩ = some (.int .i64 x.ix) ∧ W.cell? ⟨gc, j * 5 + 1, none⟩ = some (.int .i64 x.tm) ∧ W.cell? ⟨gc, j * 5 + 2, none⟩ = some (.int .i64 (P j)) ∧ W.cell? ⟨gc, j * 5 + 3, none⟩ = some (.bool (ls j)) ∧ W.cell? ⟨gc, j * 5 + 4, none⟩ = some (.string (ex j))) := fun j hj W hW => HCH.out j (by omega) W hW
          clear hlt hk HGk HG hn0 hn0' HP HCH HS HML RF
          generalize P k = pk at *
          generalize ls k = lk at *
          generalize ex k = xk at *
          generalize hAk : A k = ak at *
          clear hAk
          generalize G k = gk0 at *
          go_wp2_with fail
          refine T1.out.mono ?_
          rintro e w5 ⟨ad1, cap1, v', rfl, i1, gw⟩
          have M1 := hid (gw.next (below_al (Below.refl _ _) (.cells #[.int .i64 0, .int .i64 0, .slice ad1 0 cap1, .string ⟨#[]⟩] 30)))
          clear i1 gw T1 z0 z1 z2 z3 z4
          go_upto_region 12 with fail
          generalize w5.alloc (.cells #[.int .i64 0, .int .i64 0, .slice ad1 0 cap1, .string ⟨#[]⟩] 30) = Z at *
          replace M1 := hid (M1.out.next (Below.refl _ _).drew)
          refine wp_region_held_drew (S := (fun w' => w'.cell? ⟨gc, k * 5 + 2, none⟩ = some (.int .i64 pk) ∧ w'.cell? ⟨gc, k * 5 + 4, none⟩ = some (.string xk))) (by kernel_rfl) (HCK.out _ M1.out.bl) (fun hHeld => ?_)
          refine wpAnyH_take (i := 0) (v := ?vv22) rfl (by kernel_rfl) (by kernel_rfl) (by kernel_rfl) (fun _ _ _ h => h) (Or.inl ⟨by rfl, ?hy22⟩) (by assumption) ?rest22
          case hy22 => (intro w hSw; (try dsimp only at hSw); go_simp; first | done | with_reducible rfl)
          try simp only [Act.put, List.getElem_toArray, List.getElem_cons_succ, List.getElem_cons_zero, List.setIfInBounds_toArray, List.set_cons_zero, List.set_cons_succ]
          refine wpAnyH_take (i := 1) (v := ?vv23) rfl (by kernel_rfl) (by kernel_rfl) (by kernel_rfl) (fun _ _ _ h => h) (Or.inl ⟨by rfl, ?hy23⟩) (by assumption) ?rest23
          case hy23 => (intro w hSw; (try dsimp only at hSw); go_simp; first | done | with_reducible rfl)
          try simp only [Act.put, List.getElem_toArray, List.getElem_cons_succ, List.getElem_cons_zero, List.setIfInBounds_toArray, List.set_cons_zero, List.set_cons_succ]
          refine wpAnyH_take (i := 2) (v := ?vv24) rfl (by kernel_rfl) (by kernel_rfl) (by kernel_rfl) (fun _ _ _ h => h) (Or.inl ⟨by rfl, ?hy24⟩) (by assumption) ?rest24
          case hy24 => (intro w hSw; (try dsimp only at hSw); go_simp; first | done | with_reducible rfl)
          try simp only [Act.put, List.getElem_toArray, List.getElem_cons_succ, List.getElem_cons_zero, List.setIfInBounds_toArray, List.set_cons_zero, List.set_cons_succ]
          refine wpAnyH_take (i := 3) (v := ?vv25) rfl (by kernel_rfl) (by kernel_rfl) (by kernel_rfl) (fun _ _ _ h => h) (Or.inl ⟨by rfl, ?hy25⟩) (by assumption) ?rest25
          case hy25 => (intro w hSw; (try dsimp only at hSw); go_simp; first | done | with_reducible rfl)
          try simp only [Act.put, List.getElem_toArray, List.getElem_cons_succ, List.getElem_cons_zero, List.setIfInBounds_toArray, List.set_cons_zero, List.set_cons_succ]
          refine wpAnyH_take (i := 4) (v := ?vv26) rfl (by kernel_rfl) (by kernel_rfl) (by kernel_rfl) (fun _ _ _ h => h) (Or.inl ⟨by rfl, ?hy26⟩) (by assumption) ?rest26
          case hy26 => (intro w hSw; (try dsimp only at hSw); go_simp; first | done | with_reducible rfl)
          try simp only [Act.put, List.getElem_toArray, List.getElem_cons_succ, List.getElem_cons_zero, List.setIfInBounds_toArray, List.set_cons_zero, List.set_cons_succ]
          refine wpAnyH_take (i := 5) (v := ?vv27) rfl (by kernel_rfl) (by kernel_rfl) (by kernel_rfl) (fun _ _ _ h => h) (Or.inl ⟨by rfl, ?hy27⟩) (by assumption) ?rest27
          case hy27 => (intro w hSw; (try dsimp only at hSw); go_simp; first | done | with_reducible rfl)
          try simp only [Act.put, List.getElem_toArray, List.getElem_cons_succ, List.getElem_cons_zero, List.setIfInBounds_toArray, List.set_cons_zero, List.set_cons_succ]
          refine wpAnyH_take (i := 6) (v := ?vv28) rfl (by kernel_rfl) (by kernel_rfl) (by kernel_rfl) (fun _ _ _ h => h) (Or.inl ⟨by rfl, ?hy28⟩) (by assumption) ?rest28
          case hy28 => (intro w hSw; (try dsimp only at hSw); go_simp; first | done | with_reducible rfl)
          try simp only [Act.put, List.getElem_toArray, List.getElem_cons_succ, List.getElem_cons_zero, List.setIfInBounds_toArray, List.set_cons_zero, List.set_cons_succ]
          refine wpAnyH_take (i := 7) (v := ?vv29) rfl (by kernel_rfl) (by kernel_rfl) (by kernel_rfl) (fun _ _ _ h => h) (Or.inl ⟨by rfl, ?hy29⟩) (by assumption) ?rest29
          case hy29 => (intro w hSw; (try dsimp only at hSw); go_simp; first | done | with_reducible rfl)
          try simp only [Act.put, List.getElem_toArray, List.getElem_cons_succ, List.getElem_cons_zero, List.setIfInBounds_toArray, List.set_cons_zero, List.set_cons_succ]
          refine wpAnyH_take (i := 8) (v := ?vv30) rfl (by kernel_rfl) (by kernel_rfl) (by kernel_rfl) (fun _ _ _ h => h) (Or.inl ⟨by rfl, ?hy30⟩) (by assumption) ?rest30
          case hy30 => (intro w hSw; (try dsimp only at hSw); go_simp; first | done | with_reducible rfl)
          try simp only [Act.put, List.getElem_toArray, List.getElem_cons_succ, List.getElem_cons_zero, List.setIfInBounds_toArray, List.set_cons_zero, List.set_cons_succ]
          refine wpAnyH_take (i := 9) (v := ?vv31) rfl (by kernel_rfl) (by kernel_rfl) (by kernel_rfl) (fun _ _ _ h => h) (Or.inl ⟨by rfl, ?hy31⟩) (by assumption) ?rest31
          case hy31 => (intro w hSw; (try dsimp only at hSw); go_simp; first | done | with_reducible rfl)
          try simp only [Act.put, List.getElem_toArray, List.getElem_cons_succ, List.getElem_cons_zero, List.setIfInBounds_toArray, List.set_cons_zero, List.set_cons_succ]
          refine wpAnyH_take (i := 10) (v := undef) rfl (by kernel_rfl) (by kernel_rfl) (by kernel_rfl) (fun _ _ _ h => h) (Or.inr ⟨by rfl, rfl⟩) (by assumption) ?_
          try simp only [Act.put, List.getElem_toArray, List.getElem_cons_succ, List.getElem_cons_zero, List.setIfInBounds_toArray, List.set_cons_zero, List.set_cons_succ]
          refine wpAnyH_take (i := 11) (v := undef) rfl (by kernel_rfl) (by kernel_rfl) (by kernel_rfl) (fun _ _ _ h => h) (Or.inr ⟨by rfl, rfl⟩) (by assumption) ?_
          try simp only [Act.put, List.getElem_toArray, List.getElem_cons_succ, List.getElem_cons_zero, List.setIfInBounds_toArray, List.set_cons_zero, List.set_cons_succ]
          refine wpAnyH_take (i := 12) (v := undef) rfl (by kernel_rfl) (by kernel_rfl) (by kernel_rfl) (fun _ _ _ h => h) (Or.inr ⟨by rfl, rfl⟩) (by assumption) ?_
          try simp only [Act.put, List.getElem_toArray, List.getElem_cons_succ, List.getElem_cons_zero, List.setIfInBounds_toArray, List.set_cons_zero, List.set_cons_succ]
          refine wpAnyH_take (i := 13) (v := undef) rfl (by kernel_rfl) (by kernel_rfl) (by kernel_rfl) (fun _ _ _ h => h) (Or.inr ⟨by rfl, rfl⟩) (by assumption) ?_
          try simp only [Act.put, List.getElem_toArray, List.getElem_cons_succ, List.getElem_cons_zero, List.setIfInBounds_toArray, List.set_cons_zero, List.set_cons_succ]
          refine wpAnyH_take (i := 14) (v := undef) rfl (by kernel_rfl) (by kernel_rfl) (by kernel_rfl) (fun _ _ _ h => h) (Or.inr ⟨by rfl, rfl⟩) (by assumption) ?_
          try simp only [Act.put, List.getElem_toArray, List.getElem_cons_succ, List.getElem_cons_zero, List.setIfInBounds_toArray, List.set_cons_zero, List.set_cons_succ]
          refine wpAnyH_take (i := 15) (v := undef) rfl (by kernel_rfl) (by kernel_rfl) (by kernel_rfl) (fun _ _ _ h => h) (Or.inr ⟨by rfl, rfl⟩) (by assumption) ?_
          try simp only [Act.put, List.getElem_toArray, List.getElem_cons_succ, List.getElem_cons_zero, List.setIfInBounds_toArray, List.set_cons_zero, List.set_cons_succ]
          refine wpAnyH_take (i := 16) (v := ?vv32) rfl (by kernel_rfl) (by kernel_rfl) (by kernel_rfl) (fun _ _ _ h => h) (Or.inl ⟨by rfl, ?hy32⟩) (by assumption) ?rest32
          case hy32 => (intro w hSw; (try dsimp only at hSw); go_simp; first | done | with_reducible rfl)
          try simp only [Act.put, List.getElem_toArray, List.getElem_cons_succ, List.getElem_cons_zero, List.setIfInBounds_toArray, List.set_cons_zero, List.set_cons_succ]
          refine wpAnyH_take (i := 17) (v := ?vv33) rfl (by kernel_rfl) (by kernel_rfl) (by kernel_rfl) (fun _ _ _ h => h) (Or.inl ⟨by rfl, ?hy33⟩) (by assumption) ?rest33
          case hy33 => (intro w hSw; (try dsimp only at hSw); go_simp; first | done | with_reducible rfl)
          try simp only [Act.put, List.getElem_toArray, List.getElem_cons_succ, List.getElem_cons_zero, List.setIfInBounds_toArray, List.set_cons_zero, List.set_cons_succ]
          refine wpAnyH_take (i := 18) (v := ?vv34) rfl (by kernel_rfl) (by kernel_rfl) (by kernel_rfl) (fun _ _ _ h => h) (Or.inl ⟨by rfl, ?hy34⟩) (by assumption) ?rest34
          case hy34 => (intro w hSw; (try dsimp only at hSw); go_simp; first | done | with_reducible rfl)
          try simp only [Act.put, List.getElem_toArray, List.getElem_cons_succ, List.getElem_cons_zero, List.setIfInBounds_toArray, List.set_cons_zero, List.set_cons_succ]
          refine wpAnyH_take (i := 19) (v := ?vv35) rfl (by kernel_rfl) (by kernel_rfl) (by kernel_rfl) (fun _ _ _ h => h) (Or.inl ⟨by rfl, ?hy35⟩) (by assumption) ?rest35
          case hy35 => (intro w hSw; (try dsimp only at hSw); go_simp; first | done | with_reducible rfl)
          try simp only [Act.put, List.getElem_toArray, List.getElem_cons_succ, List.getElem_cons_zero, List.setIfInBounds_toArray, List.set_cons_zero, List.set_cons_succ]
          refine wpAnyH_take (i := 20) (v := ?vv36) rfl (by kernel_rfl) (by kernel_rfl) (by kernel_rfl) (fun _ _ _ h => h) (Or.inl ⟨by rfl, ?hy36⟩) (by assumption) ?rest36
          case hy36 => (intro w hSw; (try dsimp only at hSw); go_simp; first | done | with_reducible rfl)
          try simp only [Act.put, List.getElem_toArray, List.getElem_cons_succ, List.getElem_cons_zero, List.setIfInBounds_toArray, List.set_cons_zero, List.set_cons_succ]
          refine wpAnyH_take (i := 21) (v := ?vv37) rfl (by kernel_rfl) (by kernel_rfl) (by kernel_rfl) (fun _ _ _ h => h) (Or.inl ⟨by rfl, ?hy37⟩) (by assumption) ?rest37
          case hy37 => (intro w hSw; (try dsimp only at hSw); go_simp; first | done | with_reducible rfl)
          try simp only [Act.put, List.getElem_toArray, List.getElem_cons_succ, List.getElem_cons_zero, List.setIfInBounds_toArray, List.set_cons_zero, List.set_cons_succ]
          refine wpAnyH_take (i := 22) (v := ?vv38) rfl (by kernel_rfl) (by kernel_rfl) (by kernel_rfl) (fun _ _ _ h => h) (Or.inl ⟨by rfl, ?hy38⟩) (by assumption) ?rest38
          case hy38 => (intro w hSw; (try dsimp only at hSw); go_simp; first | done | with_reducible rfl)
          try simp only [Act.put, List.getElem_toArray, List.getElem_cons_succ, List.getElem_cons_zero, List.setIfInBounds_toArray, List.set_cons_zero, List.set_cons_succ]
          refine wpAnyH_take (i := 23) (v := ?vv39) rfl (by kernel_rfl) (by kernel_rfl) (by kernel_rfl) (fun _ _ _ h => h) (Or.inl ⟨by rfl, ?hy39⟩) (by assumption) ?rest39
          case hy39 => (intro w hSw; (try dsimp only at hSw); go_simp; first | done | with_reducible rfl)
          try simp only [Act.put, List.getElem_toArray, List.getElem_cons_succ, List.getElem_cons_zero, List.setIfInBounds_toArray, List.set_cons_zero, List.set_cons_succ]
          refine wpAnyH_take (i := 24) (v := ?vv40) rfl (by kernel_rfl) (by kernel_rfl) (by kernel_rfl) (fun _ _ _ h => h) (Or.inl ⟨by rfl, ?hy40⟩) (by assumption) ?rest40
          case hy40 => (intro w hSw; (try dsimp only at hSw); go_simp; first | done | with_reducible rfl)
          try simp only [Act.put, List.getElem_toArray, List.getElem_cons_succ, List.getElem_cons_zero, List.setIfInBounds_toArray, List.set_cons_zero, List.set_cons_succ]
          refine wpAnyH_take (i := 25) (v := ?vv41) rfl (by kernel_rfl) (by kernel_rfl) (by kernel_rfl) (fun _ _ _ h => h) (Or.inl ⟨by rfl, ?hy41⟩) (by assumption) ?rest41
          case hy41 => (intro w hSw; (try dsimp only at hSw); go_simp; first | done | with_reducible rfl)
          try simp only [Act.put, List.getElem_toArray, List.getElem_cons_succ, List.getElem_cons_zero, List.setIfInBounds_toArray, List.set_cons_zero, List.set_cons_succ]
          refine wpAnyH_take (i := 26) (v := ?vv42) rfl (by kernel_rfl) (by kernel_rfl) (by kernel_rfl) (fun _ _ _ h => h) (Or.inl ⟨by rfl, ?hy42⟩) (by assumption) ?rest42
          case hy42 => (intro w hSw; (try dsimp only at hSw); go_simp; first | done | with_reducible rfl)
          try simp only [Act.put, List.getElem_toArray, List.getElem_cons_succ, List.getElem_cons_zero, List.setIfInBounds_toArray, List.set_cons_zero, List.set_cons_succ]
          refine wpAnyH_take (i := 27) (v := ?vv43) rfl (by kernel_rfl) (by kernel_rfl) (by kernel_rfl) (fun _ _ _ h => h) (Or.inl ⟨by rfl, ?hy43⟩) (by assumption) ?rest43
          case hy43 => (intro w hSw; (try dsimp only at hSw); go_simp; first | done | with_reducible rfl)
          try simp only [Act.put, List.getElem_toArray, List.getElem_cons_succ, List.getElem_cons_zero, List.setIfInBounds_toArray, List.set_cons_zero, List.set_cons_succ]
          refine wpAnyH_take (i := 28) (v := ?vv44) rfl (by kernel_rfl) (by kernel_rfl) (by kernel_rfl) (fun _ _ _ h => h) (Or.inl ⟨by rfl, ?hy44⟩) (by assumption) ?rest44
          case hy44 => (intro w hSw; (try dsimp only at hSw); go_simp; first | done | with_reducible rfl)
          try simp only [Act.put, List.getElem_toArray, List.getElem_cons_succ, List.getElem_cons_zero, List.setIfInBounds_toArray, List.set_cons_zero, List.set_cons_succ]
          refine wpAnyH_take (i := 29) (v := ?vv45) rfl (by kernel_rfl) (by kernel_rfl) (by kernel_rfl) (fun _ _ _ h => h) (Or.inl ⟨by rfl, ?hy45⟩) (by assumption) ?rest45
          case hy45 => (intro w hSw; (try dsimp only at hSw); go_simp; first | done | with_reducible rfl)
          try simp only [Act.put, List.getElem_toArray, List.getElem_cons_succ, List.getElem_cons_zero, List.setIfInBounds_toArray, List.set_cons_zero, List.set_cons_succ]
          refine wpAnyH_take (i := 30) (v := ?vv46) rfl (by kernel_rfl) (by kernel_rfl) (by kernel_rfl) (fun _ _ _ h => h) (Or.inl ⟨by rfl, ?hy46⟩) (by assumption) ?rest46
          case hy46 => (intro w hSw; (try dsimp only at hSw); go_simp; first | done | with_reducible rfl)
          try simp only [Act.put, List.getElem_toArray, List.getElem_cons_succ, List.getElem_cons_zero, List.setIfInBounds_toArray, List.set_cons_zero, List.set_cons_succ]
          refine wpAnyH_take (i := 31) (v := ?vv47) rfl (by kernel_rfl) (by kernel_rfl) (by kernel_rfl) (fun _ _ _ h => h) (Or.inl ⟨by rfl, ?hy47⟩) (by assumption) ?rest47
          case hy47 => (intro w hSw; (try dsimp only at hSw); go_simp; first | done | with_reducible rfl)
          try simp only [Act.put, List.getElem_toArray, List.getElem_cons_succ, List.getElem_cons_zero, List.setIfInBounds_toArray, List.set_cons_zero, List.set_cons_succ]
          refine wpAnyH_take (i := 32) (v := ?vv48) rfl (by kernel_rfl) (by kernel_rfl) (by kernel_rfl) (fun _ _ _ h => h) (Or.inl ⟨by rfl, ?hy48⟩) (by assumption) ?rest48
          case hy48 => (intro w hSw; (try dsimp only at hSw); go_simp; first | done | with_reducible rfl)
          try simp only [Act.put, List.getElem_toArray, List.getElem_cons_succ, List.getElem_cons_zero, List.setIfInBounds_toArray, List.set_cons_zero, List.set_cons_succ]
          refine wpAnyH_take (i := 33) (v := ?vv49) rfl (by kernel_rfl) (by kernel_rfl) (by kernel_rfl) (fun _ _ _ h => h) (Or.inl ⟨by rfl, ?hy49⟩) (by assumption) ?rest49
          case hy49 => (intro w hSw; (try dsimp only at hSw); go_simp; first | done | with_reducible rfl)
          try simp only [Act.put, List.getElem_toArray, List.getElem_cons_succ, List.getElem_cons_zero, List.setIfInBounds_toArray, List.set_cons_zero, List.set_cons_succ]
          refine wpAnyH_take (i := 34) (v := ?vv50) rfl (by kernel_rfl) (by kernel_rfl) (by kernel_rfl) (fun _ _ _ h => h) (Or.inl ⟨by rfl, ?hy50⟩) (by assumption) ?rest50
          case hy50 => (intro w hSw; (try dsimp only at hSw); go_simp; first | done | with_reducible rfl)
          try simp only [Act.put, List.getElem_toArray, List.getElem_cons_succ, List.getElem_cons_zero, List.setIfInBounds_toArray, List.set_cons_zero, List.set_cons_succ]
          refine wpAnyH_take (i := 35) (v := ?vv51) rfl (by kernel_rfl) (by kernel_rfl) (by kernel_rfl) (fun _ _ _ h => h) (Or.inl ⟨by rfl, ?hy51⟩) (by assumption) ?rest51
          case hy51 => (intro w hSw; (try dsimp only at hSw); go_simp; first | done | with_reducible rfl)
          try simp only [Act.put, List.getElem_toArray, List.getElem_cons_succ, List.getElem_cons_zero, List.setIfInBounds_toArray, List.set_cons_zero, List.set_cons_succ]
          refine wpAnyH_take (i := 36) (v := ?vv52) rfl (by kernel_rfl) (by kernel_rfl) (by kernel_rfl) (fun _ _ _ h => h) (Or.inl ⟨by rfl, ?hy52⟩) (by assumption) ?rest52
          case hy52 => (intro w hSw; (try dsimp only at hSw); go_simp; first | done | with_reducible rfl)
          try simp only [Act.put, List.getElem_toArray, List.getElem_cons_succ, List.getElem_cons_zero, List.setIfInBounds_toArray, List.set_cons_zero, List.set_cons_succ]
          refine wpAnyH_take (i := 37) (v := ?vv53) rfl (by kernel_rfl) (by kernel_rfl) (by kernel_rfl) (fun _ _ _ h => h) (Or.inl ⟨by rfl, ?hy53⟩) (by assumption) ?rest53
          case hy53 => (intro w hSw; (try dsimp only at hSw); go_simp; first | done | with_reducible rfl)
          try simp only [Act.put, List.getElem_toArray, List.getElem_cons_succ, List.getElem_cons_zero, List.setIfInBounds_toArray, List.set_cons_zero, List.set_cons_succ]
          refine wpAnyH_done (by kernel_rfl) ?_ _
          clear HCK hq hwp hwp2 hwn hwn2
          by_cases hka : k < ag.length
          · have hge : ¬ (k : Int) ≥ (ag.length : Int) := by omega
            have hged : decide ((ag.length : Int) ≤ (k : Int)) = false := decide_eq_false (by omega)
            obtain ⟨ba, oa, rfl, y5⟩ := HAG.out k hka _ M1.out.bl
            have hka1 : (k : Int) < (ag.length : Int) := by omega
            obtain ⟨j, hj, t1, t2, t3, t4, t5⟩ := turn_in ag[k] k (by omega)
            generalize ag[k] = za at *
            clear HAG HF hka
            by_cases hj0 : j = 0
            · subst hj0
              have hjq : (((0 : Nat) : Int) == 0) = true := rfl
              clear HOL HOT HCJ BX
              go_wp2_with fail
              have hlt := HLT.out
              exact ⟨⟨k + 1, G (k + 1), v', hlt, by first | rfl | (rw [hwk]), fun _ => rfl, M1⟩, by simp [intOf]; omega⟩
            · have hj1 : 1 ≤ j := by omega
              have hjq : ((j : Int) == 0) = false := by simp; omega
              obtain ⟨z0, z1, z2, z3, z4⟩ := HCJ.out j hj _ M1.out.bl
              have T2 := hid (M1.out.call (c := ⟨x.ix, x.tm, P j, ls j, ex j⟩) (HEZ.out j) (HOL.out j hj1 hj) HZK.out)
              simp only [sh0, List.length_nil] at T2
              have hjn : (j : Int) < (n : Int) := by have := HLT.out; omega
              have hj00 : (0 : Int) ≤ (j : Int) := by omega
              generalize P j = pj at *
              generalize ls j = lj at *
              generalize ex j = xj at *
              clear HCJ HOL HEZ hj hj0 hj1 M1
              go_wp2_with fail
              refine T2.out.mono ?_
              rintro e w6 ⟨ad3, cap3, v3, rfl, i3, gw3⟩
              have M2 := hid (gw3.next (below_al (Below.refl _ _) (.cells #[.int .i64 0, .int .i64 0, .slice ad3 0 cap3, .string ⟨#[]⟩] 30)))
              clear i3 gw3 T2 z0 z1 z2 z3 z4
              obtain ⟨c0, c1, c2, c3⟩ := BX.out _ M2.out.bl
              have T3 := hid (M2.out.call (c := ⟨x.ix, x.tm + 1, ak, true, ⟨#[120]⟩⟩) (by show (1 : Nat) ≤ 200000; omega) HOT.out HZK.out)
              simp only [sh0, List.length_nil] at T3
              have hwt := HWT.out
              clear M2 BX HWT
              go_wp2_with fail
              refine T3.out.mono ?_
              rintro e w7 ⟨ad4, cap4, v4, rfl, i4, gw4⟩
              have M3 := hid (gw4.next (below_al (Below.refl _ _) (.cells #[.int .i64 0, .int .i64 0, .slice ad4 0 cap4, .string ⟨#[]⟩] 30)))
              clear i4 gw4 T3 c0 c1 c2 c3
              go_wp2_with fail
              have hlt := HLT.out
              exact ⟨⟨k + 1, G (k + 1), v4, hlt, by first | rfl | (rw [hwk]), fun _ => rfl, M3⟩, by simp [intOf]; omega⟩
          · have hge : (k : Int) ≥ (ag.length : Int) := by omega
            have hged : decide ((ag.length : Int) ≤ (k : Int)) = true := decide_eq_true hge
            clear HAG HF hka HOL HOT HCJ BX
            go_wp2_with fail
            have hlt := HLT.out
            exact ⟨⟨k + 1, G (k + 1), v', hlt, by first | rfl | (rw [hwk]), fun _ => rfl, M1⟩, by simp [intOf]; omega⟩
      · have hd1 : decide ((k : Int) < (n : Int)) = false := decide_eq_false (by omega)
        have BZ := hid (below_on HBB.out HG.out.bl)
        clear HCH HP HG HGk HAG HF BX HS HBB RF
        go_wp2_with fail
        go_ret
        exact ⟨rfl, BZ.out⟩
  · have hcq : (chkS x == 0) = false := by simp; exact hc
    have hcq2 : (chkS x != 0) = true := by simp; exact hc
    clear PC HS HAC HF
    generalize chkS x = q at *
    go_enter Try.func4, Try.ntmps4
    go_wp2_with fail
    refine CK.out.mono ?_
    rintro e w1 ⟨rfl, b1⟩
    have HX1 := hid b1
    clear CK b1
    go_wp2_with fail
    refine (AW.out _).mono ?_
    rintro e w2 ⟨rfl, b2⟩
    have HX2 := hid (below_on HX1.out b2)
    obtain ⟨c0, c1, c2, c3⟩ := BX.out w2 HX2.out
    have HB2 := hid (below_on HKA.out HX2.out)
    clear AW b2 BX HKA HX1 HX2
    go_wp2_with fail
    refine (RF.out _).mono ?_
    rintro e w3 ⟨rfl, b3⟩
    have HB3 := hid (below_on HB2.out b3)
    clear RF b3 HB2 c0 c1 c2 c3
    go_wp2_with fail
    refine (RCK.out _ HB3.out).mono ?_
    rintro e w4 ⟨rfl, b4⟩
    have HB4 := hid (below_on HB3.out b4)
    clear RCK b4 HB3
    go_wp2_with fail
    go_ret
    exact ⟨rfl, HB4.out⟩
end Go.Proofs.Ytpbfjcgncfdfnaa
