/- What was kept first is known: tables and lists of what was kept, side by side. -/
import Derived.Test.YtojiahdbgdgdcaaTkN
import Derived.Test.YtojiahdbgdgdcaaGAppL
namespace Go.Proofs.Ytojiahdbgdgdcaa
open Go.RowKit Go.Maps
set_option linter.unusedVariables false
set_option linter.unusedSimpArgs false

/-- a table, and the same in another order -/
def RelK (T K : List Hd) : Prop := isTb T = true ∧ K.Perm T
theorem relK_nil : RelK [] [] := ⟨by decide +kernel, List.Perm.refl _⟩
theorem RelK.len {T K : List Hd} (h : RelK T K) : K.length = T.length := h.2.length_eq
theorem RelK.le {T K : List Hd} (h : RelK T K) : T.length ≤ 64 := isTb_len h.1
theorem RelK.has {T K : List Hd} (h : RelK T K) (t : ByteArray) : hasH K t = hasH T t := by
  unfold hasH
  rw [Bool.eq_iff_iff, List.any_eq_true, List.any_eq_true]
  constructor
  · rintro ⟨x, hx, e⟩; exact ⟨x, h.2.mem_iff.1 hx, e⟩
  · rintro ⟨x, hx, e⟩; exact ⟨x, h.2.mem_iff.2 hx, e⟩
theorem ins_tb {T : List Hd} {h : Hd} (hT : isTb T = true) (hok : hdOk h = true) (hn : hasH T h.tk = false) (hl : T.length < 64) : isTb (insH T h) = true := by
  have hr := isTb_rise hT
  have ht := fltH_take (t := h.tk) hr
  have e : T = T.take (plH T h.tk) ++ T.drop (plH T h.tk) := (List.take_append_drop ..).symm
  have hne : ∀ x ∈ T, x.tk ≠ h.tk := fun x hx => by
    have := List.any_eq_false.1 hn x hx
    simpa using this
  have h1 : ∀ a ∈ T.take (plH T h.tk), bb a.tk h.tk = true := fun a ha => by
    rw [← ht] at ha
    exact (List.mem_filter.1 ha).2
  have hf : (T.drop (plH T h.tk)).filter (fun x => bb x.tk h.tk) = [] := by
    have e1 : fltH h.tk T = (T.take (plH T h.tk)).filter (fun x => bb x.tk h.tk) ++ (T.drop (plH T h.tk)).filter (fun x => bb x.tk h.tk) := by
      unfold fltH
      rw [← List.filter_append, List.take_append_drop]
    have e2 : (T.take (plH T h.tk)).filter (fun x => bb x.tk h.tk) = T.take (plH T h.tk) := List.filter_eq_self.2 h1
    rw [e2, ht] at e1
    exact List.append_right_eq_self.1 e1.symm
  have h2 : ∀ b ∈ T.drop (plH T h.tk), bb h.tk b.tk = true := fun b hb => by
    have h3 : ¬ bb b.tk h.tk = true := List.filter_eq_nil_iff.1 hf b hb
    rcases bb_total (hne b (List.mem_of_mem_drop hb)) with h4 | h4
    · exact absurd h4 h3
    · exact h4
  refine isTb_of (by rw [insH_len]; omega) (fun x hx => ?_) ?_
  · rcases (insH_mem T h x).1 hx with hx | hx
    · rw [hx]; exact hok
    · exact isTb_all hT x hx
  · unfold insH
    rw [e, List.pairwise_append] at hr
    rw [List.pairwise_append]
    refine ⟨hr.1, List.Pairwise.cons h2 hr.2.1, fun a ha b hb => ?_⟩
    rcases List.mem_cons.1 hb with hb | hb
    · rw [hb]; exact h1 a ha
    · exact hr.2.2 a ha b hb
theorem RelK.ins {T K : List Hd} (r : RelK T K) {h : Hd} (hok : hdOk h = true) (hn : hasH T h.tk = false) (hl : T.length < 64) : RelK (insH T h) (K ++ [h]) := by
  refine ⟨ins_tb r.1 hok hn hl, ?_⟩
  unfold insH
  have p1 : (T.take (plH T h.tk) ++ h :: T.drop (plH T h.tk)).Perm (h :: T) := by
    have := List.perm_middle (a := h) (l₁ := T.take (plH T h.tk)) (l₂ := T.drop (plH T h.tk))
    rw [List.take_append_drop] at this
    exact this
  have p2 : (K ++ [h]).Perm (h :: K) := List.perm_append_singleton h K
  exact (p2.trans (r.2.cons h)).trans p1.symm
theorem RelK.stay {T K : List Hd} (r : RelK T K) (u : Int) : RelK (stayH u T) (stayH u K) := by
  refine ⟨isTb_of ?_ (fun x hx => isTb_all r.1 x (stayH_mem hx)) ((isTb_rise r.1).filter _), r.2.filter _⟩
  have := stayH_len u T
  have := r.le
  omega
theorem tb_uni {T : List Hd} (h : T.Pairwise (fun a b => bb a.tk b.tk = true)) {x y : Hd} (hx : x ∈ T) (hy : y ∈ T) (e : x.tk = y.tk) : x = y := by
  obtain ⟨i, hi, rfl⟩ := List.getElem_of_mem hx
  obtain ⟨j, hj, rfl⟩ := List.getElem_of_mem hy
  rcases Nat.lt_trichotomy i j with hl | hl | hl
  · exact absurd e (bb_ne (List.pairwise_iff_getElem.1 h i j hi hj hl))
  · subst hl; rfl
  · exact absurd e.symm (bb_ne (List.pairwise_iff_getElem.1 h j i hj hi hl))
theorem RelK.look {T K : List Hd} (r : RelK T K) {x : Hd} (hx : x ∈ K) : lookN T x.tk x.su = 1 ∧ lookS T x.tk x.su = x.ou ∧ lookN T x.tk (x.su ++ ⟨#[48]⟩) = 2 ∧ x.su.size = 64 := by
  have hm := r.2.mem_iff.1 hx
  have hf : findH T x.tk = some x := by
    cases h : findH T x.tk with
    | none =>
      unfold findH at h
      have := List.find?_eq_none.1 h x hm
      simp at this
    | some y =>
      unfold findH at h
      have h1 := List.mem_of_find?_eq_some h
      have h2 := List.find?_some h
      rw [tb_uni (isTb_rise r.1) h1 hm (by simpa using h2)]
  have hs : x.su.size = 64 := (hdOk_sz (isTb_all r.1 x hm)).2.1
  have hne : ¬ x.su = x.su ++ ⟨#[48]⟩ := fun e => by
    have := congrArg ByteArray.size e
    rw [ByteArray.size_append] at this
    have e1 : (⟨#[48]⟩ : ByteArray).size = 1 := rfl
    omega
  refine ⟨?_, ?_, ?_, hs⟩
  · unfold lookN; rw [if_pos r.1, hf]; simp [fdN]
  · unfold lookS; rw [if_pos r.1, hf]; simp [fdS]
  · unfold lookN; rw [if_pos r.1, hf]; simp only [fdN]; rw [if_neg hne]
theorem note_cases (T : List Hd) (h : Hd) (hT : isTb T = true) : (noteE T h = 0 ∧ hdOk h = true ∧ hasH T h.tk = false ∧ T.length < 64 ∧ noteL T h = insH T h) ∨ noteE T h = 1 ∨ (noteE T h = 71 ∧ hasH T h.tk = true) ∨ (noteE T h = 131 ∧ hasH T h.tk = false ∧ T.length = 64) := by
  have hl := isTb_len hT
  unfold noteL noteE
  cases hk : hdOk h
  · exact .inr (.inl (by simp))
  · cases hh : hasH T h.tk
    · by_cases h64 : T.length = 64
      · exact .inr (.inr (.inr ⟨by simp [hT, h64], rfl, h64⟩))
      · exact .inl ⟨by simp [hT, h64], rfl, rfl, by omega, by simp [hT, h64]⟩
    · exact .inr (.inr (.inl ⟨by simp [hT], rfl⟩))
theorem has_take (K : List Hd) (t : ByteArray) (j : Nat) (hj : j < K.length) : hasH (K.take (j + 1)) t = (hasH (K.take j) t || decide (K[j].tk = t)) := by
  unfold hasH
  rw [List.take_succ_eq_append_getElem hj, List.any_append]
  simp
/-- a table and a list of what was kept, in rows of the call's own that lie apart -/
structure OS (w : World) (tv : Value) (T : List Hd) (kv : Value) (K : List Hd) (W : World) : Prop where
  t : OwnH W w.heap.size 31 tv T
  k : OwnH W w.heap.size 31 kv K
  ap : ∀ g, tv.ownBlock = some g → ¬ kv.ownBlock = some g
  b : Below w.heap.size w W
theorem OS.next {w W W' : World} {tv kv : Value} {T K : List Hd} (h : OS w tv T kv K W) (hb : Below W.heap.size W W') : OS w tv T kv K W' := ⟨h.t.next hb, h.k.next hb, h.ap, below_on h.b hb⟩
theorem OS.newT {w W W' : World} {tv kv tv' : Value} {T K T' : List Hd} (h : OS w tv T kv K W) (ho : OwnH W' W.heap.size 31 tv' T') (hb : Below W.heap.size W W') : OS w tv' T' kv K W' :=
  ⟨ownsRow_base ho h.b.size, h.k.next hb, fun g e e2 => by have := ownsRow_ge ho e; have := ownsRow_lt h.k e2; omega, below_on h.b hb⟩
theorem OS.newK {w W W' : World} {tv kv kv' : Value} {T K K' : List Hd} (h : OS w tv T kv K W) (ho : OwnH W' W.heap.size 31 kv' K') (hb : Below W.heap.size W W') : OS w tv T kv' K' W' :=
  ⟨h.t.next hb, ownsRow_base ho h.b.size, fun g e e2 => by have := ownsRow_ge ho e2; have := ownsRow_lt h.t e; omega, below_on h.b hb⟩
theorem OS.appK {w W W' : World} {tv kv kv' : Value} {T K K' : List Hd} (h : OS w tv T kv K W) (ho : OwnH W' w.heap.size 31 kv' K') (hk : Keep (fun j => kv.ownBlock = some j) W W') (hl : LocG W kv kv') : OS w tv T kv' K' W' :=
  ⟨hk.ownsRow h.t (fun g hg e => h.ap g hg e), ho, fun g e e2 => by
    rcases hl.n g e2 with h1 | h1
    · exact h.ap g e h1
    · have := ownsRow_lt h.t e; omega, h.b.trans (keep_below hk (fun j hj e => by have := ownsRow_ge h.k e; omega) h.b.size)⟩
theorem OS.nil (w W : World) (h : Below w.heap.size w W) : OS w (.slice none 0 0) [] (.slice none 0 0) [] W := ⟨ownH_nil _ _ _, ownH_nil _ _ _, fun g e => by simp [Value.ownBlock] at e, h⟩
end Go.Proofs.Ytojiahdbgdgdcaa
