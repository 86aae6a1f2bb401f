/- The mathematics of listings: what the items of keys are; nothing of the program stands here. -/
import Derived.Test.YtmadlnchmkhdjaaGreatFM
import Derived.Lib.IndexMore
import Derived.Lib.Bytealg
namespace Go.Proofs.YtmadlnchmkhdjaaGreat
open Go.RowKit Go.Maps
set_option linter.unusedVariables false
set_option linter.unusedSimpArgs false

/-- an item: its name, and whether it is a folder -/
abbrev It := Bs × Bool
/-- does the delimiter stand behind the prefix? -/
def hasD (p d k : Bs) : Bool := decide (d ≠ [] ∧ 0 ≤ Lib.index (k.drop p.length) d)
/-- where a folder's name ends -/
def endD (p d k : Bs) : Nat := p.length + (Lib.index (k.drop p.length) d).toNat + d.length
/-- the item of a key that has the prefix -/
def itK (p d k : Bs) : It := if hasD p d k then (k.take (endD p d k), true) else (k, false)
/-- the item of a key -/
def ofK (p d k : Bs) : Option It := if p.isPrefixOf k then some (itK p d k) else none

theorem pre_split {p k : Bs} (h : p.isPrefixOf k = true) : k = p ++ k.drop p.length := by
  obtain ⟨r, rfl⟩ := List.isPrefixOf_iff_prefix.1 h
  simp
theorem index_nat {s sub : Bs} (h : 0 ≤ Lib.index s sub) : ∃ i : Nat, Lib.index s sub = i ∧ i + sub.length ≤ s.length ∧ Lib.occAt s sub i = true ∧ ∀ j, j < i → Lib.occAt s sub j = false := by
  rcases Lib.index_spec s sub with ⟨e, _⟩ | ⟨i, e, h1, h2, h3⟩
  · omega
  · have := Lib.index_room s sub h
    exact ⟨i, e, by omega, h2, h3⟩
theorem endD_le {p d k : Bs} (hp : p.isPrefixOf k = true) (h : hasD p d k = true) : endD p d k ≤ k.length := by
  have h2 := (of_decide_eq_true h).2
  have := Lib.index_room _ _ h2
  have e := pre_split hp
  have : k.length = p.length + (k.drop p.length).length := by
    have := congrArg List.length e
    simpa using this
  unfold endD
  omega
/-- an item begins with the prefix, and its key begins with it -/
theorem itK_pre {p d k : Bs} (hp : p.isPrefixOf k = true) : p.isPrefixOf (itK p d k).1 = true ∧ (itK p d k).1.isPrefixOf k = true := by
  unfold itK
  split
  · rename_i h
    simp only
    have hl := endD_le hp h
    constructor
    · rw [List.isPrefixOf_iff_prefix] at hp ⊢
      obtain ⟨r, rfl⟩ := hp
      unfold endD
      rw [Nat.add_assoc, List.take_length_add_append]
      exact List.prefix_append _ _
    · rw [List.isPrefixOf_iff_prefix]
      exact List.take_prefix _ _
  · exact ⟨hp, by rw [List.isPrefixOf_iff_prefix]; exact List.prefix_refl _⟩
/-- whether it is a folder is told by its name -/
def flagOf (p d n : Bs) : Bool := decide (d ≠ [] ∧ p.length + d.length ≤ n.length ∧ n.drop (n.length - d.length) = d)
theorem itK_flag {p d k : Bs} (hp : p.isPrefixOf k = true) : (itK p d k).2 = flagOf p d (itK p d k).1 := by
  unfold itK
  split
  · rename_i h
    have hl := endD_le hp h
    obtain ⟨h1, h2⟩ := of_decide_eq_true h
    obtain ⟨i, hi, hr, ho, _⟩ := index_nat h2
    have he : endD p d k = p.length + i + d.length := by unfold endD; rw [hi]; simp
    symm
    refine decide_eq_true ⟨h1, ?_, ?_⟩
    · simp only [List.length_take]; omega
    · simp only
      rw [List.length_take, Nat.min_eq_left hl, he, Nat.add_sub_cancel, List.drop_take]
      have := Lib.occAt_iff_take (k.drop p.length) d i hr
      rw [ho] at this
      rw [List.drop_drop] at this
      rw [show p.length + i + d.length - (p.length + i) = d.length by omega]
      simpa using this.symm
  · rename_i h
    symm
    refine decide_eq_false fun ⟨h1, h2, h3⟩ => h ?_
    simp only at h2 h3
    refine decide_eq_true ⟨h1, ?_⟩
    rcases Lib.index_spec (k.drop p.length) d with ⟨_, hn⟩ | ⟨i, e, _⟩
    · exfalso
      have := hn (k.length - d.length - p.length) (by simp; omega)
      rw [Lib.occAt, List.drop_drop, show p.length + (k.length - d.length - p.length) = k.length - d.length by omega, h3] at this
      have e : d.isPrefixOf d = true := by rw [List.isPrefixOf_iff_prefix]; exact List.prefix_refl _
      rw [e] at this
      cases this
    · omega

/-- one item stands ahead of another -/
abbrev ItLt (x y : It) : Prop := bytesBefore x.1 y.1 = true
/-- the items of keys whose names a test lets by, in their order -/
structure Its (p d : Bs) (keys : List Bs) (f : Bs → Bool) (l : List It) : Prop where
  srt : l.Pairwise ItLt
  mem : ∀ x, x ∈ l ↔ (∃ k ∈ keys, ofK p d k = some x) ∧ f x.1 = true
  len : l.length ≤ keys.length

theorem lt_irrefl' (x : It) : ¬ ItLt x x := by
  intro h
  rw [ItLt, WideAt.bytes_irrefl] at h
  cases h
theorem lt_asymm' {x y : It} (h : ItLt x y) : ¬ ItLt y x := fun h2 => lt_irrefl' x (WideShapes.bytes_trans _ _ _ h h2)
theorem sorted_unique : ∀ {l m : List It}, l.Pairwise ItLt → m.Pairwise ItLt → (∀ x, x ∈ l ↔ x ∈ m) → l = m
  | [], [], _, _, _ => rfl
  | [], y :: m, _, _, h => by have := (h y).2 (by simp); simp at this
  | x :: l, [], _, _, h => by have := (h x).1 (by simp); simp at this
  | x :: l, y :: m, hl, hm, h => by
    obtain ⟨hx, hl'⟩ := List.pairwise_cons.1 hl
    obtain ⟨hy, hm'⟩ := List.pairwise_cons.1 hm
    have e : x = y := by
      rcases List.mem_cons.1 ((h x).1 (by simp)) with e | e
      · exact e
      rcases List.mem_cons.1 ((h y).2 (by simp)) with e2 | e2
      · exact e2.symm
      exact absurd (hx y e2) (lt_asymm' (hy x e))
    subst e
    congr 1
    refine sorted_unique hl' hm' fun z => ?_
    constructor
    · intro hz
      rcases List.mem_cons.1 ((h z).1 (List.mem_cons_of_mem _ hz)) with e | e
      · subst e; exact absurd (hx z hz) (lt_irrefl' z)
      · exact e
    · intro hz
      rcases List.mem_cons.1 ((h z).2 (List.mem_cons_of_mem _ hz)) with e | e
      · subst e; exact absurd (hy z hz) (lt_irrefl' z)
      · exact e
theorem Its.unique {p d : Bs} {keys keys' : List Bs} {f : Bs → Bool} {l m : List It} (h : Its p d keys f l) (h' : Its p d keys' f m) (hk : ∀ k, k ∈ keys ↔ k ∈ keys') : l = m := by
  refine sorted_unique h.srt h'.srt fun x => ?_
  rw [h.mem, h'.mem]
  constructor
  · rintro ⟨⟨k, h1, h2⟩, h3⟩; exact ⟨⟨k, (hk k).1 h1, h2⟩, h3⟩
  · rintro ⟨⟨k, h1, h2⟩, h3⟩; exact ⟨⟨k, (hk k).2 h1, h2⟩, h3⟩
theorem Its.filter {p d : Bs} {keys : List Bs} {l : List It} (h : Its p d keys (fun _ => true) l) (f : Bs → Bool) : Its p d keys f (l.filter fun x => f x.1) where
  srt := h.srt.filter _
  mem x := by
    rw [List.mem_filter, h.mem]
    simp
  len := Nat.le_trans (List.length_filter_le _ _) h.len

/-- items that were met, in no order -/
structure Met (p d : Bs) (keys : List Bs) (f : Bs → Bool) (l : List It) : Prop where
  apart : l.Pairwise (fun x y => x.1 ≠ y.1)
  mem : ∀ x, x ∈ l ↔ (∃ k ∈ keys, ofK p d k = some x) ∧ f x.1 = true
  len : l.length ≤ keys.length
theorem Met.nil (p d : Bs) (f : Bs → Bool) : Met p d [] f [] := ⟨List.Pairwise.nil, by simp, by simp⟩
theorem ofK_flag {p d k : Bs} {x : It} (h : ofK p d k = some x) : x.2 = flagOf p d x.1 := by
  unfold ofK at h
  split at h
  · rename_i hp
    injection h with h
    subst h
    exact itK_flag hp
  · cases h
theorem Met.name {p d : Bs} {keys : List Bs} {f : Bs → Bool} {l : List It} (h : Met p d keys f l) {x y : It} {k : Bs} (hx : x ∈ l) (hy : ofK p d k = some y) (e : x.1 = y.1) : x = y := by
  obtain ⟨⟨k', _, hk'⟩, _⟩ := (h.mem x).1 hx
  have h1 := ofK_flag hk'
  have h2 := ofK_flag hy
  obtain ⟨a, b⟩ := x
  obtain ⟨c, e'⟩ := y
  simp only at e h1 h2
  subst e
  rw [h1, h2]
/-- a key that gives nothing new -/
theorem Met.skip {p d : Bs} {keys : List Bs} {f : Bs → Bool} {l : List It} (h : Met p d keys f l) {k : Bs} (hk : ∀ y, ofK p d k = some y → f y.1 = true → y ∈ l) : Met p d (keys ++ [k]) f l where
  apart := h.apart
  mem x := by
    rw [h.mem]
    constructor
    · rintro ⟨⟨k', h1, h2⟩, h3⟩; exact ⟨⟨k', by simp [h1], h2⟩, h3⟩
    · rintro ⟨⟨k', h1, h2⟩, h3⟩
      rcases List.mem_append.1 h1 with h1 | h1
      · exact ⟨⟨k', h1, h2⟩, h3⟩
      · simp at h1
        subst h1
        exact (h.mem x).1 (hk x h2 h3)
  len := by have := h.len; simp; omega
/-- a key that gives a new item -/
theorem Met.more {p d : Bs} {keys : List Bs} {f : Bs → Bool} {l : List It} (h : Met p d keys f l) {k : Bs} {y : It} (hk : ofK p d k = some y) (hf : f y.1 = true) (hn : ∀ x ∈ l, x.1 ≠ y.1) : Met p d (keys ++ [k]) f (l ++ [y]) where
  apart := by
    rw [List.pairwise_append]
    exact ⟨h.apart, by simp, fun a ha b hb => by simp at hb; subst hb; exact hn a ha⟩
  mem x := by
    rw [List.mem_append, h.mem]
    constructor
    · rintro (⟨⟨k', h1, h2⟩, h3⟩ | h1)
      · exact ⟨⟨k', by simp [h1], h2⟩, h3⟩
      · simp at h1; subst h1; exact ⟨⟨k, by simp, hk⟩, hf⟩
    · rintro ⟨⟨k', h1, h2⟩, h3⟩
      rcases List.mem_append.1 h1 with h1 | h1
      · exact .inl ⟨⟨k', h1, h2⟩, h3⟩
      · simp at h1
        subst h1
        rw [hk] at h2
        injection h2 with h2
        exact .inr (by simp [h2])
  len := by have := h.len; simp; omega
/-- items that were met, when they are sorted -/
theorem Met.sorted {p d : Bs} {keys : List Bs} {f : Bs → Bool} {l m : List It} (h : Met p d keys f l) (hp : l.Perm m) (hs : m.Pairwise (fun x y => bytesBefore y.1 x.1 = false)) : Its p d keys f m where
  srt := by
    have ha : m.Pairwise (fun x y => x.1 ≠ y.1) := hp.pairwise h.apart (fun h e => h e.symm)
    exact (ha.and hs).imp fun ⟨h1, h2⟩ => by
      rcases WideAt.bytes_total _ _ h1 with e | e
      · exact e
      · rw [h2] at e; cases e
  mem x := by rw [← hp.mem_iff, h.mem]
  len := by rw [← hp.length_eq]; exact h.len

/-- an item in its place -/
def insI (x : It) : List It → List It
  | [] => [x]
  | y :: r => if bytesBefore y.1 x.1 then y :: insI x r else if y = x then y :: r else x :: y :: r
theorem mem_insI (x z : It) : ∀ l : List It, z ∈ insI x l ↔ z = x ∨ z ∈ l
  | [] => by simp [insI]
  | y :: r => by
    unfold insI
    split
    · simp only [List.mem_cons, mem_insI x z r]
      constructor
      · rintro (h | h | h) <;> simp [h]
      · rintro (h | h | h) <;> simp [h]
    · split
      · rename_i e
        simp only [List.mem_cons, e]
        constructor
        · rintro (h | h) <;> simp [h]
        · rintro (h | h | h) <;> simp [h]
      · simp
theorem len_insI (x : It) : ∀ l : List It, (insI x l).length ≤ l.length + 1
  | [] => by simp [insI]
  | y :: r => by
    unfold insI
    split
    · have := len_insI x r; simp; omega
    · split <;> simp
theorem srt_insI (x : It) : ∀ l : List It, l.Pairwise ItLt → (∀ y ∈ l, y.1 = x.1 → y = x) → (insI x l).Pairwise ItLt
  | [], _, _ => by simp [insI]
  | y :: r, h, hx => by
    obtain ⟨hy, hr⟩ := List.pairwise_cons.1 h
    unfold insI
    split
    · rename_i hb
      refine List.pairwise_cons.2 ⟨fun z hz => ?_, srt_insI x r hr (fun z hz => hx z (by simp [hz]))⟩
      rcases (mem_insI x z r).1 hz with e | e
      · subst e; exact hb
      · exact hy z e
    · rename_i hb
      split
      · exact h
      · rename_i he
        have hne : x.1 ≠ y.1 := fun e => he (hx y (by simp) e.symm)
        have hxy : ItLt x y := by
          rcases WideAt.bytes_total _ _ hne with e | e
          · exact e
          · exact absurd e hb
        refine List.pairwise_cons.2 ⟨fun z hz => ?_, h⟩
        rcases List.mem_cons.1 hz with e | e
        · subst e; exact hxy
        · exact WideShapes.bytes_trans _ _ _ hxy (hy z e)
theorem Its.nil (p d : Bs) : Its p d [] (fun _ => true) [] := ⟨List.Pairwise.nil, by simp, by simp⟩
theorem Its.skip {p d : Bs} {keys : List Bs} {l : List It} (h : Its p d keys (fun _ => true) l) {k : Bs} (hk : ofK p d k = none) : Its p d (keys ++ [k]) (fun _ => true) l where
  srt := h.srt
  mem x := by
    rw [h.mem]
    constructor
    · rintro ⟨⟨k', h1, h2⟩, h3⟩; exact ⟨⟨k', by simp [h1], h2⟩, h3⟩
    · rintro ⟨⟨k', h1, h2⟩, h3⟩
      rcases List.mem_append.1 h1 with h1 | h1
      · exact ⟨⟨k', h1, h2⟩, h3⟩
      · simp at h1; subst h1; rw [hk] at h2; cases h2
  len := by have := h.len; simp; omega
theorem Its.ins {p d : Bs} {keys : List Bs} {l : List It} (h : Its p d keys (fun _ => true) l) {k : Bs} {y : It} (hk : ofK p d k = some y) : Its p d (keys ++ [k]) (fun _ => true) (insI y l) where
  srt := srt_insI y l h.srt fun z hz e => by
    obtain ⟨⟨k', _, hk'⟩, _⟩ := (h.mem z).1 hz
    have h1 := ofK_flag hk'
    have h2 := ofK_flag hk
    obtain ⟨a, b⟩ := z
    obtain ⟨c, e'⟩ := y
    simp only at e h1 h2
    subst e
    rw [h1, h2]
  mem x := by
    rw [mem_insI, h.mem]
    constructor
    · rintro (e | ⟨⟨k', h1, h2⟩, h3⟩)
      · subst e; exact ⟨⟨k, by simp, hk⟩, rfl⟩
      · exact ⟨⟨k', by simp [h1], h2⟩, h3⟩
    · rintro ⟨⟨k', h1, h2⟩, h3⟩
      rcases List.mem_append.1 h1 with h1 | h1
      · exact .inr ⟨⟨k', h1, h2⟩, h3⟩
      · simp at h1; subst h1; rw [hk] at h2; injection h2 with h2; exact .inl h2.symm
  len := by have := h.len; have := len_insI y l; simp; omega
/-- strings.Compare in terms of what stands ahead -/
theorem cmp_before : ∀ a b : Bs, decide (Lib.compareBytes a b < 0) = bytesBefore a b
  | [], [] => rfl
  | [], _ :: _ => rfl
  | _ :: _, [] => rfl
  | x :: r, y :: s => by
    have ih := cmp_before r s
    unfold Lib.compareBytes bytesBefore
    by_cases h1 : x < y
    · simp [h1]
    · by_cases h2 : y < x
      · have : ¬ x = y := fun e => by subst e; exact h1 h2
        simp [h1, h2, this]
      · have e : x = y := by
          have a1 : ¬ x.toNat < y.toNat := h1
          have a2 : ¬ y.toNat < x.toNat := h2
          exact UInt8.toNat_inj.1 (by omega)
        subst e
        simp [ih]
end Go.Proofs.YtmadlnchmkhdjaaGreat
