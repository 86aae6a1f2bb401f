/- Pieces, versions and chains: which may be; what they are in memory. -/
import Derived.Test.YtnohkhgoejjfhaaDoorRowI
import Derived.Test.YtnohkhgoejjfhaaDoorHexM
namespace Go.Proofs.YtnohkhgoejjfhaaDoor
open Go.RowKit Go.Maps
set_option linter.unusedVariables false
set_option linter.unusedSimpArgs false

/-- a piece -/
structure Pc where
  id : ByteArray
  sz : Int
/-- a version -/
structure Vn where
  id : Int
  ma : Bool
  sz : Int
  sum : ByteArray
  ps : List Pc
def dgC (c : UInt8) : Bool := decide (0 ≤ halfN c.toNat)
/-- 64 digits -/
def isDg (s : ByteArray) : Bool := decide (s.size = 64) && s.data.toList.all dgC
def pcOk (p : Pc) : Bool := isDg p.id && decide (1 ≤ p.sz) && decide (p.sz ≤ 4096)
def pcsN : List Pc → Int
  | [] => 0
  | p :: r => p.sz + pcsN r
def pcsOk (l : List Pc) : Bool := decide (l.length ≤ 512) && l.all pcOk
def pcE (l : List Pc) : Int := if pcsOk l = true then 0 else 1
def pcV (l : List Pc) : Int := if pcsOk l = true then pcsN l else 0
def vnBare (v : Vn) : Bool := decide (v.sz = 0) && decide (v.sum.size = 0) && decide (v.ps.length = 0)
def vnObj (v : Vn) : Bool := pcsOk v.ps && decide (v.sz = pcsN v.ps) && decide (pcsN v.ps ≤ 1048576) && isDg v.sum
def vnOk (v : Vn) : Bool := decide (1 ≤ v.id) && decide (v.id ≤ 1099511627776) && (if v.ma = true then vnBare v else vnObj v)
def vnE (v : Vn) : Int := if vnOk v = true then 0 else 1
/-- versions whose numbers fall, below some number -/
def vnBelow (p : Option Int) (x : Int) : Bool := match p with | none => true | some y => decide (x < y)
def chF : Option Int → List Vn → Bool
  | _, [] => true
  | p, v :: r => vnOk v && vnBelow p v.id && chF (some v.id) r
def isCh (l : List Vn) : Bool := decide (l.length ≤ 32) && chF none l
def prevI (l : List Vn) (k : Nat) : Option Int := if k = 0 then none else (l[k - 1]?).map (·.id)
theorem prevI_succ (l : List Vn) (k : Nat) (hk : k < l.length) : prevI l (k + 1) = some l[k].id := by simp [prevI, hk]
theorem chF_at (l : List Vn) (k : Nat) (hk : k < l.length) : chF (prevI l k) (l.drop k) = (vnOk l[k] && vnBelow (prevI l k) l[k].id && chF (prevI l (k + 1)) (l.drop (k + 1))) := by
  rw [List.drop_eq_getElem_cons hk, prevI_succ l k hk]; rfl
theorem chF_all {p : Option Int} {l : List Vn} (h : chF p l = true) : ∀ v ∈ l, vnOk v = true := by
  induction l generalizing p with
  | nil => intro v hv; cases hv
  | cons x r ih =>
    simp only [chF, Bool.and_eq_true] at h
    intro v hv
    rcases List.mem_cons.1 hv with e | e
    · rw [e]; exact h.1.1
    · exact ih h.2 v e
theorem isCh_len {l : List Vn} (h : isCh l = true) : l.length ≤ 32 := by simp [isCh] at h; exact h.1
theorem isCh_all {l : List Vn} (h : isCh l = true) : ∀ v ∈ l, vnOk v = true := by
  simp only [isCh, Bool.and_eq_true] at h
  exact chF_all h.2
theorem vnOk_ps {v : Vn} (h : vnOk v = true) : v.ps.length ≤ 512 ∧ (∀ p ∈ v.ps, pcOk p = true) ∧ (v.ma = true → v.ps = []) := by
  simp only [vnOk, Bool.and_eq_true] at h
  obtain ⟨_, h⟩ := h
  split at h
  · simp only [vnBare, Bool.and_eq_true, decide_eq_true_eq] at h
    have : v.ps = [] := List.length_eq_zero_iff.1 h.2
    rw [this]
    exact ⟨by simp, by simp, fun _ => rfl⟩
  · rename_i hm
    simp only [vnObj, Bool.and_eq_true, pcsOk, decide_eq_true_eq, List.all_eq_true] at h
    exact ⟨h.1.1.1.1, h.1.1.1.2, fun e => absurd e hm⟩
theorem vnOk_sum {v : Vn} (h : vnOk v = true) : v.sum.size ≤ 64 := by
  simp only [vnOk, Bool.and_eq_true] at h
  obtain ⟨_, h⟩ := h
  split at h
  · simp only [vnBare, Bool.and_eq_true, decide_eq_true_eq] at h
    omega
  · simp only [vnObj, Bool.and_eq_true, isDg, decide_eq_true_eq] at h
    have := h.2.1
    omega
theorem pcOk_id {p : Pc} (h : pcOk p = true) : p.id.size = 64 ∧ 1 ≤ p.sz ∧ p.sz ≤ 4096 := by
  simp only [pcOk, Bool.and_eq_true, isDg, decide_eq_true_eq] at h
  exact ⟨h.1.1.1, h.1.2, h.2⟩
theorem pcsN_take (l : List Pc) (k : Nat) (hk : k < l.length) : pcsN (l.take (k + 1)) = pcsN (l.take k) + l[k].sz := by
  induction l generalizing k with
  | nil => simp at hk
  | cons p r ih =>
    cases k with
    | zero => simp [pcsN]
    | succ k =>
      simp only [List.take_succ_cons, pcsN, List.getElem_cons_succ]
      rw [ih k (by simpa using hk)]
      omega
theorem pcsN_bd (l : List Pc) (h : ∀ p ∈ l, pcOk p = true) : 0 ≤ pcsN l ∧ pcsN l ≤ 4096 * (l.length : Int) := by
  induction l with
  | nil => simp [pcsN]
  | cons p r ih =>
    have h1 := pcOk_id (h p (by simp))
    have h2 := ih (fun q hq => h q (List.mem_cons_of_mem _ hq))
    simp only [pcsN, List.length_cons]
    omega
theorem halfN_neg (c : Nat) : halfN c < 0 ↔ ¬ (0 ≤ halfN c) := by omega
theorem unh_all : ∀ (n : Nat) (l acc : List UInt8), l.length ≤ n → l.length % 2 = 0 → ((unh l acc).2 = 0 ↔ l.all dgC = true)
  | _, [], acc, _, _ => by simp [unh]
  | _, [_], acc, _, h => by simp at h
  | n, a :: b :: r, acc, hn, hp => by
    simp only [List.length_cons] at hn hp
    rw [unh]
    by_cases h : halfN a.toNat < 0 ∨ halfN b.toNat < 0
    · rw [if_pos h]
      simp only [List.all_cons, Bool.and_eq_true, dgC, decide_eq_true_eq]
      constructor
      · intro h3; cases h3
      · intro h3; omega
    · rw [if_neg h, unh_all (n - 2) r _ (by omega) (by omega)]
      simp only [List.all_cons, Bool.and_eq_true, dgC, decide_eq_true_eq]
      constructor
      · intro h3; exact ⟨by omega, by omega, h3⟩
      · intro h3; exact h3.2.2
theorem isDg_unh (s : ByteArray) : isDg s = ((((unh s.data.toList []).2 : Int) == 0) && decide (s.size = 64)) := by
  have hz : s.data.toList.length = s.size := by simp
  unfold isDg
  by_cases h : s.size = 64
  · have := unh_all _ s.data.toList [] (Nat.le_refl _) (by omega)
    rw [decide_eq_true h, Bool.true_and, Bool.and_true]
    cases h2 : s.data.toList.all dgC
    · have h3 : ¬ (unh s.data.toList []).2 = 0 := fun h4 => by rw [this.1 h4] at h2; cases h2
      rw [eq_comm, beq_eq_false_iff_ne]; omega
    · have h3 := this.2 h2
      rw [h3]; rfl
  · rw [decide_eq_false h, Bool.false_and, Bool.and_false]
/-- cells that are read from a slice, of whatever place where there are none -/
def RowC (w : World) (v : Value) (n : Nat) (cs : List Value) : Prop :=
  (∃ ad cap, v = .slice ad 0 cap ∧ n = 0 ∧ cs = []) ∨ ∃ b off cap, v = .slice (some ⟨b, off, none⟩) n cap ∧ n ≤ cap ∧ b < w.heap.size ∧ ∀ j u, cs[j]? = some u → w.cell? ⟨b, off + j, none⟩ = some u
theorem RowC.form {w : World} {v : Value} {n : Nat} {cs : List Value} (h : RowC w v n cs) : ∃ ad cap, v = .slice ad n cap ∧ ∀ j u, cs[j]? = some u → ∃ b off, ad = some ⟨b, off, none⟩ ∧ b < w.heap.size ∧ w.cell? ⟨b, off + j, none⟩ = some u := by
  rcases h with ⟨ad, cap, rfl, rfl, rfl⟩ | ⟨b, off, cap, rfl, _, hb, hc⟩
  · exact ⟨ad, cap, rfl, fun j u hu => by simp at hu⟩
  · exact ⟨_, cap, rfl, fun j u hu => ⟨b, off, rfl, hb, hc j u hu⟩⟩
theorem RowC.next {w w' : World} {v : Value} {n : Nat} {cs : List Value} (h : RowC w v n cs) (hB : Below w.heap.size w w') : RowC w' v n cs := by
  rcases h with h | ⟨b, off, cap, rfl, hn, hb, hc⟩
  · exact .inl h
  · exact .inr ⟨b, off, cap, rfl, hn, Nat.lt_of_lt_of_le hb hB.size, fun j u hu => (hB.cell (p := ⟨b, off + j, none⟩) hb).trans (hc j u hu)⟩
theorem RowC.keep {S : Nat → Prop} {w w' : World} {v : Value} {n : Nat} {cs : List Value} (h : RowC w v n cs) (k : Keep S w w') (hS : ∀ g, g < w.heap.size → ¬ S g) : RowC w' v n cs :=
  h.next (keep_below k hS (Nat.le_refl _))
/-- the row stays where what is changed lies above what it was made of -/
theorem RowC.own {w : World} {B e size n : Nat} {v : Value} {xs : List Value} (h : w.ownsRow B e size v n xs) : RowC w v n xs := by
  rcases h.2 with ⟨e0, h0⟩ | ⟨g, cap, cur, e0, _, hb, hn, _⟩
  · exact .inl ⟨none, 0, by rw [e0], h0, List.length_eq_zero_iff.1 (by rw [h.1, h0, Nat.zero_mul])⟩
  · refine .inr ⟨g, 0, cap, e0, hn, (Array.getElem?_eq_some_iff.1 hb).1, fun j u hu => ?_⟩
    rw [Nat.zero_add]
    exact grow_at (e0 ▸ h) hu
def pcC (p : Pc) : List Value := [.string p.id, .int .i64 p.sz]
def pcsC (l : List Pc) : List Value := l.flatMap pcC
theorem pcsC_len (l : List Pc) : (pcsC l).length = l.length * 2 := by
  induction l with
  | nil => rfl
  | cons p r ih => simp only [pcsC, List.flatMap_cons, List.length_append, List.length_cons] at ih ⊢; rw [ih]; simp [pcC]; omega
theorem flat_get {α : Type} (f : α → List Value) (n : Nat) (l : List α) (hf : ∀ x ∈ l, (f x).length = n) (k : Nat) (hk : k < l.length) (i : Nat) (hi : i < n) : (l.flatMap f)[k * n + i]? = (f l[k])[i]? := by
  induction l generalizing k with
  | nil => simp at hk
  | cons x r ih =>
    have hx := hf x (by simp)
    rw [List.flatMap_cons]
    cases k with
    | zero =>
      rw [List.getElem?_append_left (by omega)]
      simp
    | succ k =>
      rw [List.getElem?_append_right (by rw [hx, Nat.succ_mul]; omega)]
      have e : (k + 1) * n + i - (f x).length = k * n + i := by rw [hx, Nat.succ_mul]; omega
      rw [e, ih (fun y hy => hf y (List.mem_cons_of_mem _ hy)) k (by simpa using hk)]
      simp
theorem pcsC_get (l : List Pc) (k : Nat) (hk : k < l.length) (i : Nat) (hi : i < 2) : (pcsC l)[k * 2 + i]? = (pcC l[k])[i]? := flat_get pcC 2 l (fun _ _ => rfl) k hk i hi
theorem pcsC_take (l : List Pc) (k : Nat) (hk : k < l.length) : pcsC (l.take (k + 1)) = pcsC (l.take k) ++ pcC l[k] := by
  unfold pcsC
  rw [List.take_succ_eq_append_getElem hk, List.flatMap_append]
  simp
/-- pieces in memory -/
def PcI (w : World) (v : Value) (l : List Pc) : Prop := RowC w v l.length (pcsC l)
theorem PcI.next {w w' : World} {v : Value} {l : List Pc} (h : PcI w v l) (hB : Below w.heap.size w w') : PcI w' v l := RowC.next h hB
theorem PcI.form {w : World} {v : Value} {l : List Pc} (h : PcI w v l) : ∃ ad cap, v = .slice ad l.length cap ∧ ∀ k (hk : k < l.length), ∃ b off, ad = some ⟨b, off, none⟩ ∧ b < w.heap.size ∧ w.cell? ⟨b, off + k * 2, none⟩ = some (.string l[k].id) ∧ w.cell? ⟨b, off + k * 2 + 1, none⟩ = some (.int .i64 l[k].sz) := by
  obtain ⟨ad, cap, e, hc⟩ := RowC.form h
  refine ⟨ad, cap, e, fun k hk => ?_⟩
  obtain ⟨b, off, e1, hb, c0⟩ := hc (k * 2 + 0) _ (pcsC_get l k hk 0 (by omega))
  obtain ⟨b', off', e1', _, c1⟩ := hc (k * 2 + 1) _ (pcsC_get l k hk 1 (by omega))
  rw [e1] at e1'
  injection e1' with e2
  injection e2 with e3 e4
  subst e3 e4
  exact ⟨b, off, e1, hb, c0, c1⟩
theorem PcI.sl {w : World} {v : Value} {l : List Pc} (h : PcI w v l) : ∃ ad cap, v = .slice ad l.length cap := by
  obtain ⟨ad, cap, e, _⟩ := h.form
  exact ⟨ad, cap, e⟩
theorem pci_none (w : World) : PcI w (.slice none 0 0) [] := .inl ⟨none, 0, rfl, rfl, rfl⟩
def vnC (y : Value × Vn) : List Value := [.int .i64 y.2.id, .bool y.2.ma, .int .i64 y.2.sz, .string y.2.sum, y.1]
def vnV (y : Value × Vn) : Value := .agg #[.int .i64 y.2.id, .bool y.2.ma, .int .i64 y.2.sz, .string y.2.sum, y.1]
def vqC (q : List (Value × Vn)) : List Value := q.flatMap vnC
def vqL (q : List (Value × Vn)) : List Vn := q.map (·.2)
theorem vqL_len (q : List (Value × Vn)) : (vqL q).length = q.length := List.length_map ..
theorem vqC_get (q : List (Value × Vn)) (k : Nat) (hk : k < q.length) (i : Nat) (hi : i < 5) : (vqC q)[k * 5 + i]? = (vnC q[k])[i]? := flat_get vnC 5 q (fun _ _ => rfl) k hk i hi
theorem vqC_len (q : List (Value × Vn)) : (vqC q).length = q.length * 5 := by
  induction q with
  | nil => rfl
  | cons p r ih => simp only [vqC, List.flatMap_cons, List.length_append, List.length_cons] at ih ⊢; rw [ih]; simp [vnC]; omega
theorem vqC_app (q r : List (Value × Vn)) : vqC (q ++ r) = vqC q ++ vqC r := List.flatMap_append
theorem vqC_one (y : Value × Vn) : vqC [y] = vnC y := by simp [vqC]
theorem vqL_app (q r : List (Value × Vn)) : vqL (q ++ r) = vqL q ++ vqL r := List.map_append
theorem vqL_get (q : List (Value × Vn)) (k : Nat) (hk : k < q.length) : (vqL q)[k]'(by rw [vqL_len]; exact hk) = q[k].2 := by simp [vqL]
/-- the pieces of each lie in memory -/
def VqP (w : World) (q : List (Value × Vn)) : Prop := ∀ y ∈ q, PcI w y.1 y.2.ps
theorem VqP.next {w w' : World} {q : List (Value × Vn)} (h : VqP w q) (hB : Below w.heap.size w w') : VqP w' q := fun y hy => (h y hy).next hB
/-- versions in memory -/
def VnI (w : World) (v : Value) (q : List (Value × Vn)) : Prop := RowC w v q.length (vqC q) ∧ VqP w q
theorem VnI.next {w w' : World} {v : Value} {q : List (Value × Vn)} (h : VnI w v q) (hB : Below w.heap.size w w') : VnI w' v q := ⟨RowC.next h.1 hB, h.2.next hB⟩
theorem VnI.form {w : World} {v : Value} {q : List (Value × Vn)} (h : VnI w v q) : ∃ ad cap, v = .slice ad q.length cap ∧ ∀ k (hk : k < q.length), ∃ b off, ad = some ⟨b, off, none⟩ ∧ b < w.heap.size ∧ w.cell? ⟨b, off + k * 5, none⟩ = some (.int .i64 q[k].2.id) ∧ w.cell? ⟨b, off + k * 5 + 1, none⟩ = some (.bool q[k].2.ma) ∧ w.cell? ⟨b, off + k * 5 + 2, none⟩ = some (.int .i64 q[k].2.sz) ∧ w.cell? ⟨b, off + k * 5 + 3, none⟩ = some (.string q[k].2.sum) ∧ w.cell? ⟨b, off + k * 5 + 4, none⟩ = some q[k].1 ∧ PcI w q[k].1 q[k].2.ps := by
  obtain ⟨h1, h2⟩ := h
  rcases h1 with ⟨ad, cap, rfl, h0, _⟩ | ⟨b, off, cap, rfl, _, hb, hc⟩
  · exact ⟨ad, cap, by rw [h0], fun k hk => by omega⟩
  · refine ⟨_, cap, rfl, fun k hk => ⟨b, off, rfl, hb, ?_, ?_, ?_, ?_, ?_, h2 _ (List.getElem_mem hk)⟩⟩
    · have := hc (k * 5 + 0) _ (vqC_get q k hk 0 (by omega)); exact this
    · have := hc (k * 5 + 1) _ (vqC_get q k hk 1 (by omega)); rw [← Nat.add_assoc] at this; exact this
    · have := hc (k * 5 + 2) _ (vqC_get q k hk 2 (by omega)); rw [← Nat.add_assoc] at this; exact this
    · have := hc (k * 5 + 3) _ (vqC_get q k hk 3 (by omega)); rw [← Nat.add_assoc] at this; exact this
    · have := hc (k * 5 + 4) _ (vqC_get q k hk 4 (by omega)); rw [← Nat.add_assoc] at this; exact this
theorem vni_none (w : World) : VnI w (.slice none 0 0) [] := ⟨.inl ⟨none, 0, rfl, rfl, rfl⟩, fun y hy => by cases hy⟩
end Go.Proofs.YtnohkhgoejjfhaaDoor
