/- A row of numbers that grows by append; two lists held against one another. -/
import Derived.Test.YtghcijliknahdaaConfW
import Derived.Test.YtghcijliknahdaaGApp
namespace Go.Proofs.Ytghcijliknahdaa
open Go.RowKit Go.Maps
set_option linter.unusedVariables false
set_option linter.unusedSimpArgs false

theorem elInt : ElT 22 3 1 8 := ⟨Try.underlying22, ⟨.int .i64 0, by kernel_rfl, rfl⟩, by decide⟩
/-- numbers in a row that the call owns -/
def OwnI (w : World) (B : Nat) (v : Value) (l : List Int) : Prop := w.ownsRow B 3 1 v l.length (isC l)
theorem ownI_nil (w : World) (B : Nat) : OwnI w B (.slice none 0 0) [] := ⟨rfl, .inl ⟨rfl, rfl⟩⟩
theorem OwnI.form {w : World} {B : Nat} {v : Value} {l : List Int} (h : OwnI w B v l) : ∃ ad cap, v = .slice ad l.length cap := row_form h
theorem OwnI.ints {w : World} {B : Nat} {v : Value} {l : List Int} (h : OwnI w B v l) : IntsI w v l := by
  rcases gsrc_all h with ⟨c, e, h0, h1⟩ | ⟨g, off, c, e, hg, hc⟩
  · have hl : l = [] := List.length_eq_zero_iff.1 h0
    subst hl
    exact .inl ⟨none, c, e, rfl⟩
  · exact .inr ⟨g, off, c, e, hg, fun j hj => hc j _ (isC_get l j hj)⟩
theorem OwnI.next {w w' : World} {B : Nat} {v : Value} {l : List Int} (h : OwnI w B v l) (hB : Below w.heap.size w w') : OwnI w' B v l :=
  (hB.keep (fun _ => False)).ownsRow h (fun _ _ h => h)
theorem wpl_iapp {w : World} {ops : Array Oper} {rest : List Oper} {o : Oper} {a : Act} {Q : Exit → Act → World → Prop} (hgd : o.guard = none) (sl x : Operand)
    (ho : o.op = .call { callee := .builtin .append, args := #[sl, x], argTypes := #[22, 22] }) (B g n : Nat) (v : Value) (l : List Int) (y : Int) (hn : l.length = n)
    (hs : a.eval sl = v) (hx : a.eval x = .slice (some ⟨g, 0, none⟩) 1 1) (h0 : OwnI w B v l) (hB : B ≤ w.heap.size) (hg : RowIs w g [.int .i64 y] 3) (hl : l.length + 1 ≤ 70368744177)
    (h : ∀ ad' cap' w', OwnI w' B (.slice ad' (n + 1) cap') (l ++ [y]) → Below B w w' → wpList Try.prog ops Q rest (a.put o.dst (.slice ad' (n + 1) cap')) w') : wpList Try.prog ops Q (o :: rest) a w := by
  subst hn
  refine wpl_gapp hgd sl x elInt ho B v _ (isC l) [.int .i64 y] l.length 1 (l.length + 1) rfl hs hx h0 hB (gsrc_block hg) rfl (fun u hu => by simp at hu; subst hu; rfl) (by omega) (by omega) ?_
  intro ad' cap' w' ho' hk'
  refine h ad' cap' w' ?_ (keep_below hk' (fun k hk e => ?_) hB)
  · unfold OwnI
    rw [show isC (l ++ [y]) = isC l ++ [.int .i64 y] by simp [isC], show (l ++ [y]).length = l.length + 1 by simp]
    exact ho'
  · have := ownsRow_ge h0 e
    omega
theorem own_new {w : World} {B : Nat} {v : Value} {l : List Int} (h : OwnI w B v l) (o : Obj) : OwnI (w.alloc o) B v l := h.next ((Below.refl _ _).alloc (Nat.le_refl _) o)
def eqI (a b : List Int) : Bool := a == b
theorem eqI_at {a b : List Int} {k : Nat} (h1 : k < a.length) (h2 : k < b.length) : eqI (a.drop k) (b.drop k) = ((a[k] == b[k]) && eqI (a.drop (k + 1)) (b.drop (k + 1))) := by
  rw [List.drop_eq_getElem_cons h1, List.drop_eq_getElem_cons h2]; rfl
theorem eqI_refl (a : List Int) : eqI a a = true := beq_self_eq_true a
theorem eqI_iff {a b : List Int} : eqI a b = true ↔ a = b := beq_iff_eq
set_option maxRecDepth 100000 in
set_option maxHeartbeats 1000000 in
theorem ints_any (v v2 : Value) (a b : List Int) (w : World) (hv : IntsI w v a) (hv2 : IntsI w v2 b) (hl : a.length ≤ 4611686018427387904) : Calls Try.prog 22 #[v, v2] w fun e w' => e = .returned (.bool (eqI a b)) ∧ Below w.heap.size w w' := by
  obtain ⟨ad, cap, rfl, hc⟩ := hv.form
  obtain ⟨ad2, cap2, rfl, hc2⟩ := hv2.form
  have HC := hid hc
  have HC2 := hid hc2
  have HA : Hid (∃ R, R = eqI a b) := ⟨_, rfl⟩
  obtain ⟨R, HA⟩ := HA.out
  have HA : Hid (R = eqI a b) := HA
  rw [← HA.out]
  have HHL := hid hl
  clear hc hc2 hv hv2 hl
  go_enter Try.func22, Try.ntmps22
  by_cases hlen : a.length = b.length
  · have hne : ((a.length : Int) != (b.length : Int)) = false := by simp [hlen]
    have HLE := hid hlen
    clear hlen
    go_wp2
    clear hne
    go_loopw [5] (fun i wr => ∃ (k : Nat), k ≤ a.length ∧ i = .int .i64 (k : Int) ∧ Hid (Below w.heap.size w wr) ∧ Hid (R = eqI (a.drop k) (b.drop k))) (fun i _ => a.length - (intOf i).toNat)
    case atStart => exact ⟨0, Nat.zero_le _, rfl, Below.refl _ _, HA.out⟩
    case round =>
      obtain ⟨k, hk, rfl, HB, HR⟩ := hrel
      by_cases hlt : k < a.length
      · have hk0 : (0 : Int) ≤ (k : Int) := by omega
        have hk1 : (k : Int) < (a.length : Int) := by omega
        have hk2 : (k : Int) < (b.length : Int) := by have := HLE.out; omega
        have hltb : k < b.length := by omega
        obtain ⟨g, off, rfl, hb, hc⟩ := HC.out k hlt
        obtain ⟨g2, off2, rfl, hb2, hc2⟩ := HC2.out k hltb
        have y1 := (HB.out.cell (p := ⟨g, off + k, none⟩) hb).trans hc
        have y2 := (HB.out.cell (p := ⟨g2, off2 + k, none⟩) hb2).trans hc2
        have hwk : wrap64 ((k : Int) + 1) = ((k + 1 : Nat) : Int) := by have := HHL.out; rw [IntWalk.wrap64_in _ (by omega)]; omega
        have HRA := hid (eqI_at hlt hltb)
        have HLT := hid hlt
        generalize a[k] = x at *
        generalize b[k] = y at *
        clear HC HC2 hb hb2 hc hc2 HHL HLE HA hk hlt hltb
        by_cases hxy : x = y
        · have hn : (x != y) = false := by simp [hxy]
          have HR2 : Hid (R = eqI (a.drop (k + 1)) (b.drop (k + 1))) := by show _ = _; rw [HR.out, HRA.out, hxy]; simp
          clear HR HRA hxy
          go_wp2
          go_quiet (fail)
          go_wp2
          exact ⟨⟨k + 1, HLT.out, by rw [hwk], below_on HB.out (below_drew0 _ _), HR2⟩, by rw [hwk]; have := HLT.out; simp [intOf]; omega⟩
        · have hn : (x != y) = true := by simp [hxy]
          have HR2 : Hid (R = false) := by show _ = _; rw [HR.out, HRA.out, beq_eq_false_iff_ne.2 hxy]; rfl
          clear HR HRA hxy
          go_wp2
          go_quiet (fail)
          go_wp2
          go_ret
          rw [HR2.out]
          exact ⟨rfl, below_on HB.out (below_drew0 _ _)⟩
      · have hk9 : k = a.length := by omega
        subst hk9
        have hdl : decide ((a.length : Int) < (a.length : Int)) = false := decide_eq_false (by omega)
        have HR2 : Hid (R = true) := by show _ = _; rw [HR.out, List.drop_length, HLE.out, List.drop_length]; rfl
        clear HR HA HC HC2 HHL HLE
        go_wp2
        go_ret
        rw [HR2.out]
        exact ⟨rfl, HB.out⟩
  · have hne : ((a.length : Int) != (b.length : Int)) = true := by rw [bne_iff_ne]; omega
    have HR : Hid (R = false) := by
      show _ = _
      rw [HA.out]
      cases h : eqI a b
      · rfl
      · exact absurd (congrArg List.length (eqI_iff.1 h)) hlen
    clear HA HC HC2 HHL hlen
    go_wp2
    go_ret
    rw [HR.out]
    exact ⟨rfl, Below.refl _ _⟩
end Go.Proofs.Ytghcijliknahdaa
