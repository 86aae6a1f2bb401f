/- Joined: A part's place among parts: the program's search. Lists that are parts: their numbers rise, there are at most a hundred; a part's place by the list alone. Picks in memory; which rise; which parts they name. -/
import Derived.Test.YtmadlnchmkhdjaaGreatJoined08
import Derived.Test.YtmadlnchmkhdjaaGreatJoined03
import Derived.Shelf.Abstract
namespace Go.Proofs.YtmadlnchmkhdjaaGreat
open Go.RowKit Go.Maps
set_option linter.unusedVariables false
set_option linter.unusedSimpArgs false

def lb (a b : Int) : Bool := decide (a < b)
theorem lb_ne {a b : Int} (h : lb a b = true) : ¬ a = b := by have := of_decide_eq_true h; omega
theorem lb_trans {a b c : Int} (h : lb a b = true) (k : lb b c = true) : lb a c = true := by
  have := of_decide_eq_true h
  have := of_decide_eq_true k
  exact decide_eq_true (by omega)
def cmpI (x y : Int) : Int := if x < y then -1 else if y < x then 1 else 0
theorem cmp_lb (x y : Int) : decide (cmpI x y < 0) = lb x y := by
  unfold cmpI lb
  by_cases h : x < y
  · simp [h]
  · by_cases k : y < x <;> simp [h, k]
theorem cmp_lz (x y : Int) : (cmpI x y == 0) = decide (x = y) := by
  rw [Bool.eq_iff_iff, beq_iff_eq, decide_eq_true_eq]
  unfold cmpI
  by_cases h : x < y
  · simp [h]; omega
  · by_cases k : y < x
    · simp [h, k]; omega
    · simp [h, k]; omega
/-- how many stand ahead of a token -/
def plQ (l : List (Value × Pt)) (t : Int) : Nat := l.countP (fun h => lb h.2.n t)
def hasQ (l : List (Value × Pt)) (t : Int) : Bool := l.any (fun h => decide (h.2.n = t))
theorem plQ_le (l : List (Value × Pt)) (t : Int) : plQ l t ≤ l.length := List.countP_le_length
theorem plQ_at : ∀ (l : List (Value × Pt)) (t : Int) (i : Nat), i ≤ l.length → (∀ j (h : j < l.length), j < i → lb l[j].2.n t = true) → (∀ j (h : j < l.length), i ≤ j → lb l[j].2.n t = false) → plQ l t = i
  | [], t, i, hi, _, _ => by simp at hi; simp [plQ, hi]
  | a :: r, t, 0, _, _, h2 => by
    unfold plQ
    rw [List.countP_eq_zero]
    intro x hx
    obtain ⟨j, hj, rfl⟩ := List.getElem_of_mem hx
    simp [h2 j hj (Nat.zero_le _)]
  | a :: r, t, i + 1, hi, h1, h2 => by
    have ha : lb a.2.n t = true := h1 0 (by simp) (Nat.succ_pos _)
    unfold plQ
    have ha' : (fun h : Value × Pt => lb h.2.n t) a = true := ha
    rw [List.countP_cons_of_pos (p := fun h : Value × Pt => lb h.2.n t) (a := a) (l := r) ha']
    have := plQ_at r t i (by simpa using hi) (fun j hj hij => h1 (j + 1) (by simpa using hj) (by omega)) (fun j hj hij => h2 (j + 1) (by simpa using hj) (by omega))
    unfold plQ at this
    rw [this]
theorem hasQ_at {l : List (Value × Pt)} {t : Int} (hs : l.Pairwise (fun a b => lb a.2.n b.2.n = true)) {i : Nat} (h1 : ∀ j (h : j < l.length), j < i → lb l[j].2.n t = true) (h2 : ∀ j (h : j < l.length), i ≤ j → lb l[j].2.n t = false) : hasQ l t = (if h : i < l.length then decide (l[i].2.n = t) else false) := by
  rw [Bool.eq_iff_iff]
  unfold hasQ
  rw [List.any_eq_true]
  constructor
  · rintro ⟨x, hx, he⟩
    simp only [decide_eq_true_eq] at he
    obtain ⟨j, hj, rfl⟩ := List.getElem_of_mem hx
    have hij : i ≤ j := Nat.le_of_not_lt fun h => lb_ne (h1 j hj h) he
    have hil : i < l.length := by omega
    rw [dif_pos hil, decide_eq_true_eq]
    rcases Nat.lt_or_eq_of_le hij with h | h
    · have h3 := List.pairwise_iff_getElem.1 hs i j hil hj h
      rw [he, h2 i hil (Nat.le_refl _)] at h3
      cases h3
    · subst h; exact he
  · intro h
    by_cases hil : i < l.length
    · rw [dif_pos hil] at h
      exact ⟨l[i], List.getElem_mem hil, h⟩
    · rw [dif_neg hil] at h; cases h
end Go.Proofs.YtmadlnchmkhdjaaGreat
namespace Go.Proofs.YtmadlnchmkhdjaaGreat
open Go.RowKit Go.Maps
set_option linter.unusedVariables false
set_option linter.unusedSimpArgs false

theorem ptOk_n {x : Pt} (h : ptOk x = true) : 1 ≤ x.n ∧ x.n ≤ 100 := by
  simp only [ptOk, Bool.and_eq_true, decide_eq_true_eq] at h
  exact ⟨h.1.1.2, h.1.2⟩
theorem ptF_all : ∀ {l : List Pt} {p : Option Int}, ptF p l = true → (∀ v ∈ l, ptOk v = true) ∧ l.Pairwise (fun a b => a.n < b.n) ∧ ∀ y, p = some y → ∀ v ∈ l, y < v.n
  | [], p, _ => ⟨fun v h => absurd h (List.not_mem_nil), List.Pairwise.nil, fun y e v h => absurd h (List.not_mem_nil)⟩
  | x :: r, p, h => by
    simp only [ptF, Bool.and_eq_true] at h
    obtain ⟨⟨h1, h2⟩, h3⟩ := h
    obtain ⟨a1, a2, a3⟩ := ptF_all h3
    refine ⟨fun v hv => ?_, List.Pairwise.cons (fun v hv => a3 _ rfl v hv) a2, fun y hy v hv => ?_⟩
    · rcases List.mem_cons.1 hv with e | e
      · rw [e]; exact h1
      · exact a1 v e
    · subst hy
      have hx : y < x.n := of_decide_eq_true h2
      rcases List.mem_cons.1 hv with e | e
      · rw [e]; exact hx
      · have := a3 _ rfl v e
        omega
theorem arePt_all {l : List Pt} (h : arePt l = true) : ∀ v ∈ l, ptOk v = true := (ptF_all h).1
theorem arePt_rise {l : List Pt} (h : arePt l = true) : l.Pairwise (fun a b => a.n < b.n) := (ptF_all h).2.1
theorem rise_from : ∀ {l : List Pt} {k : Int}, l.Pairwise (fun a b => a.n < b.n) → (∀ v ∈ l, k < v.n ∧ v.n ≤ 100) → k ≤ 100 → (l.length : Int) ≤ 100 - k
  | [], k, _, _, hk => by simp; omega
  | x :: r, k, hs, hb, hk => by
    have h1 := List.pairwise_cons.1 hs
    have hx := hb x (by simp)
    have := rise_from (k := x.n) h1.2 (fun v hv => ⟨h1.1 v hv, (hb v (List.mem_cons_of_mem _ hv)).2⟩) hx.2
    simp only [List.length_cons]
    omega
theorem arePt_len {l : List Pt} (h : arePt l = true) : l.length ≤ 100 := by
  have := rise_from (k := 0) (arePt_rise h) (fun v hv => by have := ptOk_n (arePt_all h v hv); omega) (by omega)
  omega
theorem ptF_of : ∀ {l : List Pt} {p : Option Int}, (∀ v ∈ l, ptOk v = true) → l.Pairwise (fun a b => a.n < b.n) → (∀ y, p = some y → ∀ v ∈ l, y < v.n) → ptF p l = true
  | [], _, _, _, _ => rfl
  | x :: r, p, hk, hs, hp => by
    rw [List.pairwise_cons] at hs
    simp only [ptF, Bool.and_eq_true]
    refine ⟨⟨hk x (by simp), ?_⟩, ptF_of (fun v hv => hk v (List.mem_cons_of_mem _ hv)) hs.2 (fun y hy v hv => by injection hy with hy; rw [← hy]; exact hs.1 v hv)⟩
    cases p with
    | none => rfl
    | some y => exact decide_eq_true (hp y rfl x (by simp))
theorem arePt_of {l : List Pt} (hk : ∀ v ∈ l, ptOk v = true) (hs : l.Pairwise (fun a b => a.n < b.n)) : arePt l = true := ptF_of hk hs (fun y hy => by cases hy)
/-- a part's place, and whether one of that number is there, by the list alone -/
def plT (l : List Pt) (n : Int) : Nat := l.countP (fun h => lb h.n n)
def hasT (l : List Pt) (n : Int) : Bool := l.any (fun h => decide (h.n = n))
theorem plQ_eq (q : List (Value × Pt)) (n : Int) : plQ q n = plT (tqL q) n := by
  unfold plQ plT tqL
  rw [List.countP_map]
  rfl
theorem hasQ_eq (q : List (Value × Pt)) (n : Int) : hasQ q n = hasT (tqL q) n := by
  unfold hasQ hasT tqL
  rw [List.any_map]
  rfl
end Go.Proofs.YtmadlnchmkhdjaaGreat
namespace Go.Proofs.YtmadlnchmkhdjaaGreat
open Go.RowKit Go.Maps
set_option linter.unusedVariables false
set_option linter.unusedSimpArgs false

/-- a pick -/
structure Pk where
  n : Int
  su : ByteArray
def pkC (k : Pk) : List Value := [.int .i64 k.n, .string k.su]
def pkV (k : Pk) : Value := .agg #[.int .i64 k.n, .string k.su]
def kqC (l : List Pk) : List Value := l.flatMap pkC
theorem kqC_get (l : List Pk) (k : Nat) (hk : k < l.length) (i : Nat) (hi : i < 2) : (kqC l)[k * 2 + i]? = (pkC l[k])[i]? := flat_get pkC 2 l (fun _ _ => rfl) k hk i hi
theorem kqC_len (l : List Pk) : (kqC l).length = l.length * 2 := by
  induction l with
  | nil => rfl
  | cons p r ih => simp only [kqC, List.flatMap_cons, List.length_append, List.length_cons] at ih ⊢; rw [ih]; simp [pkC]; omega
theorem kqC_take (l : List Pk) (k : Nat) (hk : k < l.length) : kqC (l.take (k + 1)) = kqC (l.take k) ++ pkC l[k] := by
  unfold kqC
  rw [List.take_succ_eq_append_getElem hk, List.flatMap_append]
  simp
/-- picks in memory -/
def PkI (w : World) (v : Value) (l : List Pk) : Prop := RowC w v l.length (kqC l)
theorem PkI.next {w w' : World} {v : Value} {l : List Pk} (h : PkI w v l) (hB : Below w.heap.size w w') : PkI w' v l := RowC.next h hB
theorem PkI.form {w : World} {v : Value} {l : List Pk} (h : PkI w v l) : ∃ ad cap, v = .slice ad l.length cap ∧ ∀ k (hk : k < l.length), ∃ b off, ad = some ⟨b, off, none⟩ ∧ b < w.heap.size ∧ w.cell? ⟨b, off + k * 2, none⟩ = some (.int .i64 l[k].n) ∧ w.cell? ⟨b, off + k * 2 + 1, none⟩ = some (.string l[k].su) := by
  obtain ⟨ad, cap, e, hc⟩ := RowC.form h
  refine ⟨ad, cap, e, fun k hk => ?_⟩
  obtain ⟨b, off, e1, hb, c0⟩ := hc (k * 2 + 0) _ (kqC_get l k hk 0 (by omega))
  obtain ⟨b', off', e1', _, c1⟩ := hc (k * 2 + 1) _ (kqC_get l k hk 1 (by omega))
  rw [e1] at e1'
  injection e1' with e2
  injection e2 with e3 e4
  subst e3 e4
  exact ⟨b, off, e1, hb, c0, c1⟩
theorem pki_none (w : World) : PkI w (.slice none 0 0) [] := .inl ⟨none, 0, rfl, rfl, rfl⟩
/-- do their numbers rise? -/
def kpF : Option Int → List Pk → Bool
  | _, [] => true
  | p, v :: r => ptAbove p v.n && kpF (some v.n) r
def riseK (l : List Pk) : Bool := kpF none l
def prevK (l : List Pk) (k : Nat) : Option Int := if k = 0 then none else (l[k - 1]?).map (·.n)
theorem prevK_succ (l : List Pk) (k : Nat) (hk : k < l.length) : prevK l (k + 1) = some l[k].n := by simp [prevK, hk]
theorem kpF_at (l : List Pk) (k : Nat) (hk : k < l.length) : kpF (prevK l k) (l.drop k) = (ptAbove (prevK l k) l[k].n && kpF (prevK l (k + 1)) (l.drop (k + 1))) := by
  rw [List.drop_eq_getElem_cons hk, prevK_succ l k hk]; rfl
/-- the part that a pick names -/
def nmK (k : Pk) (x : Pt) : Bool := decide (x.n = k.n) && decide (x.sum = k.su)
def pk1 (l : List Pt) (k : Pk) : Option Pt := l.find? (nmK k)
def pkAll (l : List Pt) (ks : List Pk) : Bool := ks.all fun k => (pk1 l k).isSome
def pkL (l : List Pt) (ks : List Pk) : List Pt := ks.filterMap (pk1 l)
def pq1 (q : List (Value × Pt)) (k : Pk) : Option (Value × Pt) := q.find? fun y => nmK k y.2
def pqL (q : List (Value × Pt)) (ks : List Pk) : List (Value × Pt) := ks.filterMap (pq1 q)
theorem pq1_eq (q : List (Value × Pt)) (k : Pk) : (pq1 q k).map (·.2) = pk1 (tqL q) k := by
  unfold pq1 pk1 tqL
  rw [List.find?_map]
  rfl
theorem pqL_eq (q : List (Value × Pt)) (ks : List Pk) : tqL (pqL q ks) = pkL (tqL q) ks := by
  unfold pqL pkL tqL
  rw [List.map_filterMap]
  congr 1
  funext k
  exact pq1_eq q k
theorem pqL_mem {q : List (Value × Pt)} {ks : List Pk} {y : Value × Pt} (h : y ∈ pqL q ks) : y ∈ q := by
  obtain ⟨k, _, hk⟩ := List.mem_filterMap.1 h
  exact List.mem_of_find?_eq_some hk
/-- of a rising list the part at the place is the one of the number -/
theorem plT_at : ∀ {l : List Pt} {n : Int}, l.Pairwise (fun a b => a.n < b.n) → hasT l n = true → ∃ x, l[plT l n]? = some x ∧ x.n = n
  | [], n, _, h => by simp [hasT] at h
  | x :: r, n, hs, h => by
    have h1 := List.pairwise_cons.1 hs
    have e : hasT (x :: r) n = (decide (x.n = n) || hasT r n) := rfl
    have e2 : plT (x :: r) n = plT r n + (if lb x.n n = true then 1 else 0) := by unfold plT; rw [List.countP_cons]
    rw [e2]
    by_cases hx : x.n = n
    · have h0 : lb x.n n = false := by unfold lb; exact decide_eq_false (by omega)
      have hz : plT r n = 0 := by
        unfold plT
        rw [List.countP_eq_zero]
        intro a ha
        have := h1.1 a ha
        unfold lb
        simp
        omega
      rw [h0, hz]
      exact ⟨x, by simp, hx⟩
    · rw [e, decide_eq_false hx, Bool.false_or] at h
      obtain ⟨z, hz, hn⟩ := plT_at h1.2 h
      have h0 : lb x.n n = true := by
        unfold lb
        have := h1.1 z (List.mem_of_getElem? hz)
        exact decide_eq_true (by omega)
      rw [h0]
      exact ⟨z, by simpa using hz, hn⟩
theorem nm_uniq {l : List Pt} (hs : l.Pairwise (fun a b => a.n < b.n)) {x y : Pt} (hx : x ∈ l) (hy : y ∈ l) (h : x.n = y.n) : x = y := by
  induction l with
  | nil => cases hx
  | cons z r ih =>
    have h1 := List.pairwise_cons.1 hs
    rcases List.mem_cons.1 hx with e | e <;> rcases List.mem_cons.1 hy with f | f
    · rw [e, f]
    · have := h1.1 y f; rw [e] at h; omega
    · have := h1.1 x e; rw [f] at h; omega
    · exact ih h1.2 e f
/-- what a pick names, by the place -/
theorem pk1_place {l : List Pt} (hs : l.Pairwise (fun a b => a.n < b.n)) (k : Pk) : pk1 l k = if hasT l k.n = true then (match l[plT l k.n]? with | some x => if x.sum = k.su then some x else none | none => none) else none := by
  by_cases h : hasT l k.n = true
  · rw [if_pos h]
    obtain ⟨x, hx, hn⟩ := plT_at hs h
    rw [hx]
    simp only
    have hm := List.mem_of_getElem? hx
    by_cases hsu : x.sum = k.su
    · rw [if_pos hsu]
      have h1 : nmK k x = true := by simp [nmK, hn, hsu]
      cases hf : pk1 l k with
      | none => have := List.find?_eq_none.1 hf x hm; exact absurd h1 this
      | some y =>
        have hy := List.find?_some hf
        have hym := List.mem_of_find?_eq_some hf
        simp only [nmK, Bool.and_eq_true, decide_eq_true_eq] at hy
        rw [nm_uniq hs hym hm (by rw [hy.1, hn])]
    · rw [if_neg hsu]
      unfold pk1
      rw [List.find?_eq_none]
      intro y hy hyk
      simp only [nmK, Bool.and_eq_true, decide_eq_true_eq] at hyk
      have := nm_uniq hs hy hm (by rw [hyk.1, hn])
      rw [this] at hyk
      exact hsu hyk.2
  · rw [if_neg h]
    unfold pk1
    rw [List.find?_eq_none]
    intro y hy hyk
    simp only [nmK, Bool.and_eq_true, decide_eq_true_eq] at hyk
    apply h
    unfold hasT
    rw [List.any_eq_true]
    exact ⟨y, hy, decide_eq_true hyk.1⟩
/-- are they too small, too long; what they come to -/
def smT (l : List Pt) : Bool := l.any fun x => decide (x.sz < 64)
def szT (l : List Pt) : Int := (l.map (·.sz)).sum
def psT (l : List Pt) : List Pc := l.flatMap (·.ps)
def loT (l : List Pt) : Bool := decide (1048576 < szT l) || decide (512 < (psT l).length)
def sumT (l : List Pt) : List ByteArray := l.map (·.sum)
/-- the error of putting together -/
def tjE (l : List Pt) (ks : List Pk) : Int :=
  if (arePt l && !ks.isEmpty && riseK ks) = true then
    if pkAll l ks = true then
      if smT (pkL l ks).dropLast = true then 141 else if loT (pkL l ks) = true then 2 else 0
    else 140
  else 1
end Go.Proofs.YtmadlnchmkhdjaaGreat
