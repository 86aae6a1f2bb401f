/- Kept tokens: which may be, which lists are tables; what they are in memory. -/
import Derived.Test.YtojiahdbgdgdcaaNmN
import Derived.Test.YtojiahdbgdgdcaaGApR
import Derived.Test.YtojiahdbgdgdcaaBxM
import Derived.Test.YtojiahdbgdgdcaaCvA
import Derived.Test.YtojiahdbgdgdcaaClone
namespace Go.Proofs.Ytojiahdbgdgdcaa
open Go.RowKit Go.Maps
set_option linter.unusedVariables false
set_option linter.unusedSimpArgs false

/-- one text stands ahead of another -/
def bb (x y : ByteArray) : Bool := bytesBefore x.data.toList y.data.toList
theorem bb_less (x y : ByteArray) : Op.bytesLess x.toList y.toList = bb x y := by
  have less_bef : ∀ a b : List UInt8, Op.bytesLess a b = bytesBefore a b := by
    intro a
    induction a with
    | nil => intro b; cases b <;> rfl
    | cons x r ih => intro b; cases b with
      | nil => rfl
      | cons y s => simp only [Op.bytesLess, bytesBefore, ih]
  rw [ByteArray.toList_eq, ByteArray.toList_eq, less_bef]; rfl
theorem bb_irrefl (x : ByteArray) : bb x x = false := WideAt.bytes_irrefl _
theorem bb_trans {x y z : ByteArray} (h : bb x y = true) (k : bb y z = true) : bb x z = true := WideShapes.bytes_trans _ _ _ h k
theorem bb_asymm {x y : ByteArray} (h : bb x y = true) : bb y x = false := by
  cases k : bb y x with
  | false => rfl
  | true => have := bb_trans h k; rw [bb_irrefl] at this; cases this
theorem bb_total {x y : ByteArray} (h : x ≠ y) : bb x y = true ∨ bb y x = true := WideAt.bytes_total _ _ (fun e => h (WideShapes.bytes_inj e))
theorem bb_ne {x y : ByteArray} (h : bb x y = true) : x ≠ y := fun e => by rw [e, bb_irrefl] at h; cases h
theorem tl_eq (x y : ByteArray) : (x.toList == y.toList) = decide (x = y) := by
  rw [ByteArray.toList_eq, ByteArray.toList_eq, Bool.eq_iff_iff, beq_iff_eq, decide_eq_true_eq]
  exact ⟨WideShapes.bytes_inj, fun e => by rw [e]⟩
theorem bb_le (x y : ByteArray) : (Op.bytesLess x.toList y.toList || x.toList == y.toList) = !bb y x := by
  rw [bb_less, tl_eq]
  by_cases e : x = y
  · subst e; rw [bb_irrefl]; simp
  · rw [decide_eq_false e, Bool.or_false]
    rcases bb_total e with h | h
    · rw [h, bb_asymm h]; rfl
    · rw [h, bb_asymm h]; rfl
theorem cmp_bb (x y : ByteArray) : decide (Lib.compareBytes x.data.toList y.data.toList < 0) = bb x y := cmp_before _ _
theorem cmp_nil : ∀ a b : List UInt8, Lib.compareBytes a b = 0 ↔ a = b
  | [], [] => by simp [Lib.compareBytes]
  | [], _ :: _ => by simp [Lib.compareBytes]
  | _ :: _, [] => by simp [Lib.compareBytes]
  | x :: r, y :: s => by
    have ih := cmp_nil r s
    unfold Lib.compareBytes
    by_cases h1 : x < y
    · have : ¬ x = y := fun e => by subst e; exact absurd h1 (by simp)
      simp [h1, this]
    · by_cases h2 : y < x
      · have : ¬ x = y := fun e => by subst e; exact h1 h2
        simp [h1, h2, this]
      · have e : x = y := by
          have a1 : ¬ x.toNat < y.toNat := h1
          have a2 : ¬ y.toNat < x.toNat := h2
          exact UInt8.toNat_inj.1 (by omega)
        subst e
        simp [ih]
theorem cmp_bz (x y : ByteArray) : (Lib.compareBytes x.data.toList y.data.toList == 0) = decide (x = y) := by
  rw [Bool.eq_iff_iff, beq_iff_eq, decide_eq_true_eq, cmp_nil]
  exact ⟨WideShapes.bytes_inj, fun e => by rw [e]⟩
/-- a kept token -/
structure Hd where
  tk : ByteArray
  su : ByteArray
  ou : ByteArray
  at_ : Int
def hdOk (h : Hd) : Bool := tokOk h.tk.data.toList && isDg h.su && decide (h.ou.size ≤ 4096) && decide (1 ≤ h.at_) && decide (h.at_ ≤ 1099511627776)
def hdAbove (p : Option ByteArray) (x : ByteArray) : Bool := match p with | none => true | some y => bb y x
def tbF : Option ByteArray → List Hd → Bool
  | _, [] => true
  | p, v :: r => hdOk v && hdAbove p v.tk && tbF (some v.tk) r
def isTb (l : List Hd) : Bool := decide (l.length ≤ 64) && tbF none l
def prevH (l : List Hd) (k : Nat) : Option ByteArray := if k = 0 then none else (l[k - 1]?).map (·.tk)
theorem prevH_succ (l : List Hd) (k : Nat) (hk : k < l.length) : prevH l (k + 1) = some l[k].tk := by simp [prevH, hk]
theorem tbF_at (l : List Hd) (k : Nat) (hk : k < l.length) : tbF (prevH l k) (l.drop k) = (hdOk l[k] && hdAbove (prevH l k) l[k].tk && tbF (prevH l (k + 1)) (l.drop (k + 1))) := by
  rw [List.drop_eq_getElem_cons hk, prevH_succ l k hk]; rfl
theorem tbF_all {p : Option ByteArray} {l : List Hd} (h : tbF p l = true) : ∀ v ∈ l, hdOk v = true := by
  induction l generalizing p with
  | nil => intro v hv; cases hv
  | cons x r ih =>
    simp only [tbF, Bool.and_eq_true] at h
    intro v hv
    rcases List.mem_cons.1 hv with e | e
    · rw [e]; exact h.1.1
    · exact ih h.2 v e
theorem tbF_rise {p : Option ByteArray} {l : List Hd} (h : tbF p l = true) : l.Pairwise (fun a b => bb a.tk b.tk = true) ∧ ∀ y, p = some y → ∀ v ∈ l, bb y v.tk = true := by
  induction l generalizing p with
  | nil => exact ⟨List.Pairwise.nil, fun y _ v hv => by cases hv⟩
  | cons x r ih =>
    simp only [tbF, Bool.and_eq_true] at h
    obtain ⟨h1, h2⟩ := ih h.2
    refine ⟨List.Pairwise.cons (fun b hb => h2 x.tk rfl b hb) h1, fun y hy v hv => ?_⟩
    have hx : bb y x.tk = true := by have := h.1.2; rw [hy] at this; exact this
    rcases List.mem_cons.1 hv with e | e
    · rw [e]; exact hx
    · exact bb_trans hx (h2 x.tk rfl v e)
theorem isTb_len {l : List Hd} (h : isTb l = true) : l.length ≤ 64 := by simp [isTb] at h; exact h.1
theorem isTb_all {l : List Hd} (h : isTb l = true) : ∀ v ∈ l, hdOk v = true := by
  simp only [isTb, Bool.and_eq_true] at h
  exact tbF_all h.2
theorem isTb_rise {l : List Hd} (h : isTb l = true) : l.Pairwise (fun a b => bb a.tk b.tk = true) := by
  simp only [isTb, Bool.and_eq_true] at h
  exact (tbF_rise h.2).1
theorem tbF_of {l : List Hd} : ∀ {p : Option ByteArray}, (∀ v ∈ l, hdOk v = true) → l.Pairwise (fun a b => bb a.tk b.tk = true) → (∀ y, p = some y → ∀ v ∈ l, bb y v.tk = true) → tbF p l = true := by
  induction l with
  | nil => intro p _ _ _; rfl
  | cons x r ih =>
    intro p h1 h2 h3
    simp only [tbF, Bool.and_eq_true]
    cases h2 with
    | cons h4 h5 =>
      refine ⟨⟨h1 x (by simp), ?_⟩, ih (fun v hv => h1 v (List.mem_cons_of_mem _ hv)) h5 (fun y hy v hv => by injection hy with hy; subst hy; exact h4 v hv)⟩
      cases p with
      | none => rfl
      | some y => exact h3 y rfl x (by simp)
theorem isTb_of {l : List Hd} (h0 : l.length ≤ 64) (h1 : ∀ v ∈ l, hdOk v = true) (h2 : l.Pairwise (fun a b => bb a.tk b.tk = true)) : isTb l = true := by
  simp only [isTb, Bool.and_eq_true, decide_eq_true_eq]
  exact ⟨h0, tbF_of h1 h2 (fun y hy => by cases hy)⟩
theorem hdOk_sz {h : Hd} (e : hdOk h = true) : h.tk.size ≤ 64 ∧ h.su.size = 64 ∧ h.ou.size ≤ 4096 ∧ 1 ≤ h.at_ ∧ h.at_ ≤ 1099511627776 := by
  simp only [hdOk, Bool.and_eq_true, tokOk, isDg, decide_eq_true_eq] at e
  have : h.tk.data.toList.length = h.tk.size := by simp
  rw [this] at e
  exact ⟨e.1.1.1.1.1.2, e.1.1.1.2.1, e.1.1.2, e.1.2, e.2⟩
def hdC (h : Hd) : List Value := [.string h.tk, .string h.su, .string h.ou, .int .i64 h.at_]
def hdV (h : Hd) : Value := .agg #[.string h.tk, .string h.su, .string h.ou, .int .i64 h.at_]
def hqC (l : List Hd) : List Value := l.flatMap hdC
theorem hqC_get (l : List Hd) (k : Nat) (hk : k < l.length) (i : Nat) (hi : i < 4) : (hqC l)[k * 4 + i]? = (hdC l[k])[i]? := flat_get hdC 4 l (fun _ _ => rfl) k hk i hi
theorem hqC_len (l : List Hd) : (hqC l).length = l.length * 4 := by
  induction l with
  | nil => rfl
  | cons p r ih => simp only [hqC, List.flatMap_cons, List.length_append, List.length_cons] at ih ⊢; rw [ih]; simp [hdC]; omega
theorem hqC_app (q r : List Hd) : hqC (q ++ r) = hqC q ++ hqC r := List.flatMap_append
theorem hqC_one (y : Hd) : hqC [y] = hdC y := by simp [hqC]
theorem hqC_take (l : List Hd) (k : Nat) (hk : k < l.length) : hqC (l.take (k + 1)) = hqC (l.take k) ++ hdC l[k] := by
  rw [List.take_succ_eq_append_getElem hk, hqC_app, hqC_one]
theorem hdC_one (h : Hd) : ∀ u ∈ hdC h, u.oneCell' = true := by
  intro u hu
  simp [hdC] at hu
  rcases hu with rfl | rfl | rfl | rfl <;> rfl
theorem hqC_one' (l : List Hd) : ∀ u ∈ hqC l, u.oneCell' = true := by
  intro u hu
  obtain ⟨y, hy, hu⟩ := List.mem_flatMap.1 hu
  exact hdC_one y u hu
/-- kept tokens in memory -/
def HdI (w : World) (v : Value) (l : List Hd) : Prop := RowC w v l.length (hqC l)
theorem HdI.next {w w' : World} {v : Value} {l : List Hd} (h : HdI w v l) (hB : Below w.heap.size w w') : HdI w' v l := RowC.next h hB
theorem HdI.form {w : World} {v : Value} {l : List Hd} (h : HdI w v l) : ∃ ad cap, v = .slice ad l.length cap ∧ ∀ k (hk : k < l.length), ∃ b off, ad = some ⟨b, off, none⟩ ∧ b < w.heap.size ∧ w.cell? ⟨b, off + k * 4, none⟩ = some (.string l[k].tk) ∧ w.cell? ⟨b, off + k * 4 + 1, none⟩ = some (.string l[k].su) ∧ w.cell? ⟨b, off + k * 4 + 2, none⟩ = some (.string l[k].ou) ∧ w.cell? ⟨b, off + k * 4 + 3, none⟩ = some (.int .i64 l[k].at_) := by
  rcases h with ⟨ad, cap, rfl, h0, _⟩ | ⟨b, off, cap, rfl, _, hb, hc⟩
  · exact ⟨ad, cap, by rw [h0], fun k hk => by omega⟩
  · refine ⟨_, cap, rfl, fun k hk => ⟨b, off, rfl, hb, ?_, ?_, ?_, ?_⟩⟩
    · have := hc (k * 4 + 0) _ (hqC_get l k hk 0 (by omega)); exact this
    · have := hc (k * 4 + 1) _ (hqC_get l k hk 1 (by omega)); rw [← Nat.add_assoc] at this; exact this
    · have := hc (k * 4 + 2) _ (hqC_get l k hk 2 (by omega)); rw [← Nat.add_assoc] at this; exact this
    · have := hc (k * 4 + 3) _ (hqC_get l k hk 3 (by omega)); rw [← Nat.add_assoc] at this; exact this
theorem hdi_none (w : World) : HdI w (.slice none 0 0) [] := .inl ⟨none, 0, rfl, rfl, rfl⟩
theorem elH : ElT 22 31 4 56 := ⟨Try.underlying22, ⟨.agg #[.string ⟨#[]⟩, .string ⟨#[]⟩, .string ⟨#[]⟩, .int .i64 0], by kernel_rfl, rfl⟩, by decide⟩
theorem elRH : ElT 26 37 4 56 := ⟨Try.underlying26, ⟨.agg #[.string ⟨#[]⟩, .string ⟨#[]⟩, .string ⟨#[]⟩, .int .i64 0], by kernel_rfl, rfl⟩, by decide⟩
/-- kept tokens in a row that the call owns -/
def OwnH (w : World) (B t : Nat) (v : Value) (l : List Hd) : Prop := w.ownsRow B t 4 v l.length (hqC l)
theorem OwnH.hd {w : World} {B t : Nat} {v : Value} {l : List Hd} (h : OwnH w B t v l) : HdI w v l := RowC.own h
theorem OwnH.form {w : World} {B t : Nat} {v : Value} {l : List Hd} (h : OwnH w B t v l) : ∃ ad cap, v = .slice ad l.length cap := row_form h
theorem OwnH.next {w w' : World} {B t : Nat} {v : Value} {l : List Hd} (h : OwnH w B t v l) (hB : Below w.heap.size w w') : OwnH w' B t v l := (hB.keep (fun _ => False)).ownsRow h (fun _ _ h => h)
theorem ownH_nil (w : World) (B t : Nat) : OwnH w B t (.slice none 0 0) [] := ⟨rfl, .inl ⟨rfl, rfl⟩⟩
end Go.Proofs.Ytojiahdbgdgdcaa
