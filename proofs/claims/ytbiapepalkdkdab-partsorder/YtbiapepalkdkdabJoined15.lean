/- Joined: Few parts. The order in which parts come does not matter: lists alone. The walk of the law PartsOrder. -/
import Derived.Test.YtbiapepalkdkdabPtZ
import Derived.Test.YtbiapepalkdkdabPkC
import Derived.Test.YtbiapepalkdkdabJoined07
import Derived.Test.YtbiapepalkdkdabJoined14
import Derived.Test.YtbiapepalkdkdabJoined13
namespace Go.Proofs.Ytbiapepalkdkdab
open Go.RowKit Go.Maps
set_option linter.unusedVariables false
set_option linter.unusedSimpArgs false

/-- parts that may be, at most 101 -/
def FewT (l : List Pt) : Prop := l.length ≤ 101 ∧ ∀ v ∈ l, ptOk v = true
theorem FewT.nil : FewT [] := ⟨by simp, fun v hv => by cases hv⟩
theorem few_tput (l : List Pt) (x : Pt) : FewT (tputL l x) := by
  unfold tputL
  split
  · rename_i h
    unfold tputE at h
    split at h
    · rename_i hh
      have h1 := arePt_len hh.1
      refine ⟨?_, fun v hv => ?_⟩
      · unfold insT
        have h2 := plT_sk l x.n
        simp only [List.length_append, List.length_take, List.length_cons, List.length_drop]
        omega
      · rcases List.mem_append.1 hv with e | e
        · exact arePt_all hh.1 v (List.mem_of_mem_take e)
        · rcases List.mem_cons.1 e with e | e
          · rw [e]; exact hh.2
          · exact arePt_all hh.1 v (List.mem_of_mem_drop e)
    · cases h
  · exact FewT.nil
theorem tm_mem {q : List (Value × Pt)} {l : List Pt} (h : tqL q = l) {y : Value × Pt} (hy : y ∈ q) : y.2 ∈ l := by rw [← h]; exact tq_mem hy
theorem tm_len {q : List (Value × Pt)} {l : List Pt} (h : tqL q = l) : q.length = l.length := by rw [← h, tqL_len]
/-- the law's copy of few parts -/
theorem trefs_few (v : Value) (q : List (Value × Pt)) (l : List Pt) (w : World) (hv : PtI w v q) (he : tqL q = l) (hf : FewT l) : Calls Try.prog 11 #[v] w (fun e w' => (∃ ad n cap q', e = .returned (.slice ad n cap) ∧ Hid (PtI w' (.slice ad n cap) q' ∧ tqL q' = l)) ∧ Below w.heap.size w w') :=
  (trefs_any v q w hv (by rw [tm_len he]; have := hf.1; omega) (fun y hy => by have := (ptOk_b (hf.2 _ (tm_mem he hy))).2.2.1; omega)).mono fun e w' ⟨ad, cap, q', h1, h2, h3, h4⟩ => ⟨⟨ad, _, cap, q', h1, h3.pt, by rw [h2, he]⟩, h4⟩
theorem tsame_few (v1 v2 : Value) (q1 q2 : List (Value × Pt)) (l : List Pt) (w : World) (h1 : PtI w v1 q1) (h2 : PtI w v2 q2) (e1 : tqL q1 = l) (e2 : tqL q2 = l) (hf : FewT l) : Calls Try.prog 15 #[v1, v2] w (fun e w' => e = .returned (.bool true) ∧ Below w.heap.size w w') :=
  rtsame_true v1 v2 q1 q2 w h1 h2 (by rw [e1, e2]) (by rw [tm_len e1]; have := hf.1; omega) (fun y hy => by have := (ptOk_b (hf.2 _ (tm_mem e1 hy))).2.2.1; omega)
theorem ptIs_len (l : List Pt) : (ptIs l).length ≤ 51200 := by
  unfold ptIs
  split
  · rename_i h
    have h1 : ∀ m : List Pt, (∀ x ∈ m, ptOk x = true) → (idsT m).length ≤ 512 * m.length := by
      intro m
      induction m with
      | nil => intro _; simp [idsT]
      | cons x r ih =>
        intro hm
        have a := (ptOk_b (hm x (by simp))).2.2.1
        have b := ih (fun y hy => hm y (List.mem_cons_of_mem _ hy))
        have e : idsT (x :: r) = pcI9 x.ps ++ idsT r := by simp [idsT]
        rw [e, List.length_append, List.length_cons]
        have c : (pcI9 x.ps).length = x.ps.length := by simp [pcI9]
        omega
    have := h1 l (arePt_all h)
    have h2 := arePt_len h
    omega
  · simp
theorem trefs_few2 (v : Value) (q : List (Value × Pt)) (l : List Pt) (w : World) (hv : PtI w v q) (he : tqL q = l) (hf : FewT l) : Calls Try.prog 11 #[v] w (fun e w' => ∃ ad n cap q', e = .returned (.slice ad n cap) ∧ Hid (PtI w' (.slice ad n cap) q' ∧ tqL q' = l) ∧ Hid (Below w.heap.size w w')) :=
  (trefs_few v q l w hv he hf).mono fun e w' ⟨⟨ad, n, cap, q', h1, h2⟩, h3⟩ => ⟨ad, n, cap, q', h1, h2, h3⟩
end Go.Proofs.Ytbiapepalkdkdab
namespace Go.Proofs.Ytbiapepalkdkdab
open Go.RowKit Go.Maps
set_option linter.unusedVariables false
set_option linter.unusedSimpArgs false

theorem mem_insT {l : List Pt} {x y : Pt} (h : arePt l = true) : y ∈ insT l x ↔ y = x ∨ (y ∈ l ∧ y.n ≠ x.n) := by
  have hr := arePt_rise h
  obtain ⟨a, b⟩ := plT_split (n := x.n) hr
  obtain ⟨c, d⟩ := skT_split (n := x.n) hr
  unfold insT
  rw [List.mem_append, List.mem_cons]
  constructor
  · rintro (e | e | e)
    · obtain ⟨i, hi, rfl⟩ := List.mem_take_iff_getElem.1 e
      have := a i (by omega) (by omega)
      exact .inr ⟨List.getElem_mem _, by omega⟩
    · exact .inl e
    · obtain ⟨i, hi, rfl⟩ := List.mem_drop_iff_getElem.1 e
      have := d (skT l x.n + i) (by omega) (by omega)
      exact .inr ⟨List.getElem_mem _, by omega⟩
  · rintro (e | ⟨e, hn⟩)
    · exact .inr (.inl e)
    · obtain ⟨i, hi, rfl⟩ := List.getElem_of_mem e
      by_cases h1 : i < plT l x.n
      · exact .inl (List.mem_take_iff_getElem.2 ⟨i, by omega, rfl⟩)
      · have h2 := b i hi (by omega)
        have h3 : skT l x.n ≤ i := by
          rcases Nat.lt_or_ge i (skT l x.n) with h4 | h4
          · have := c i hi h4; omega
          · exact h4
        refine .inr (.inr (List.mem_drop_iff_getElem.2 ⟨i - skT l x.n, by omega, ?_⟩))
        congr 1
        omega
theorem arePt_ins {l : List Pt} {x : Pt} (h : arePt l = true) (hx : ptOk x = true) : arePt (insT l x) = true := by
  have hr := arePt_rise h
  obtain ⟨a, b⟩ := plT_split (n := x.n) hr
  obtain ⟨c, d⟩ := skT_split (n := x.n) hr
  refine arePt_of (fun v hv => ?_) ?_
  · rcases (mem_insT h).1 hv with e | e
    · rw [e]; exact hx
    · exact arePt_all h v e.1
  · unfold insT
    have lo : ∀ y ∈ l.take (plT l x.n), y.n < x.n := fun y hy => by
      obtain ⟨i, hi, rfl⟩ := List.mem_take_iff_getElem.1 hy
      exact a i (by omega) (by omega)
    have hi : ∀ y ∈ l.drop (skT l x.n), x.n < y.n := fun y hy => by
      obtain ⟨i, hi, rfl⟩ := List.mem_drop_iff_getElem.1 hy
      exact d (skT l x.n + i) (by omega) (by omega)
    rw [List.pairwise_append]
    refine ⟨hr.sublist (List.take_sublist _ _), List.Pairwise.cons hi (hr.sublist (List.drop_sublist _ _)), fun y hy z hz => ?_⟩
    have h1 := lo y hy
    rcases List.mem_cons.1 hz with e | e
    · rw [e]; exact h1
    · have := hi z e; omega
/-- both lists of the law: those that were put, and those that count -/
structure OrR (a l : List Pt) : Prop where
  ar : arePt a = true
  eq : ∀ x, x ∈ a ↔ x ∈ l
  ne : l.Pairwise (fun x y => x.n ≠ y.n)
def neK (n : Int) (x : Pt) : Bool := !decide (x.n = n)
theorem orR_nil : OrR [] [] := ⟨rfl, fun _ => Iff.rfl, List.Pairwise.nil⟩
theorem OrR.step {a l : List Pt} (h : OrR a l) {x : Pt} (hx : ptOk x = true) : OrR (insT a x) (l.filter (neK x.n) ++ [x]) := by
  refine ⟨arePt_ins h.ar hx, fun y => ?_, ?_⟩
  · rw [mem_insT h.ar, List.mem_append, List.mem_filter, List.mem_singleton, h.eq y]
    constructor
    · rintro (e | ⟨e, hn⟩)
      · exact .inr e
      · exact .inl ⟨e, by simp [neK, hn]⟩
    · rintro (⟨e, hn⟩ | e)
      · exact .inr ⟨e, by simpa [neK] using hn⟩
      · exact .inl e
  · rw [List.pairwise_append]
    refine ⟨h.ne.filter _, List.pairwise_singleton _ _, fun y hy z hz => ?_⟩
    rw [List.mem_singleton.1 hz]
    have := (List.mem_filter.1 hy).2
    simpa [neK] using this
theorem ne_uniq {l : List Pt} (h : l.Pairwise (fun x y => x.n ≠ y.n)) {x y : Pt} (hx : x ∈ l) (hy : y ∈ l) (e : x.n = y.n) : x = y := by
  induction l with
  | nil => cases hx
  | cons z r ih =>
    have h1 := List.pairwise_cons.1 h
    rcases List.mem_cons.1 hx with a | a <;> rcases List.mem_cons.1 hy with b | b
    · rw [a, b]
    · exact absurd (by rw [← a]; exact e) (h1.1 y b)
    · exact absurd (by rw [← b]; exact e.symm) (h1.1 x a)
    · exact ih h1.2 a b
/-- those that were put anew, out of those that count -/
structure OrB (l b c : List Pt) : Prop where
  ar : arePt b = true
  eq : ∀ x, x ∈ b ↔ x ∈ c
  sub : ∀ x ∈ c, x ∈ l
theorem OrB.step {l b c : List Pt} (h : OrB l b c) (hne : l.Pairwise (fun x y => x.n ≠ y.n)) {x : Pt} (hx : x ∈ l) (hok : ptOk x = true) : OrB l (insT b x) (c ++ [x]) := by
  refine ⟨arePt_ins h.ar hok, fun y => ?_, fun y hy => ?_⟩
  · rw [mem_insT h.ar, List.mem_append, List.mem_singleton, h.eq y]
    constructor
    · rintro (e | ⟨e, _⟩)
      · exact .inr e
      · exact .inl e
    · rintro (e | e)
      · by_cases hn : y.n = x.n
        · exact .inl (ne_uniq hne (h.sub y e) hx hn)
        · exact .inr ⟨e, hn⟩
      · exact .inl e
  · rcases List.mem_append.1 hy with e | e
    · exact h.sub y e
    · rw [List.mem_singleton.1 e]; exact hx
def rotI (turn : Int) (m : Nat) : Nat := ((turn.tmod m + m).tmod m).toNat
def rotL (turn : Int) (l : List Pt) (i : Nat) : List Pt := (List.range i).filterMap fun j => l[(j + rotI turn l.length) % l.length]?
theorem rotL_succ (turn : Int) (l : List Pt) (i k : Nat) (hk : k = (i + rotI turn l.length) % l.length) (hl : k < l.length) : rotL turn l (i + 1) = rotL turn l i ++ [l[k]] := by
  unfold rotL
  rw [List.range_succ, List.filterMap_append]
  subst hk
  simp [hl]
theorem rotL_all (turn : Int) (l : List Pt) (hm : 0 < l.length) (hr : rotI turn l.length < l.length) (x : Pt) (hx : x ∈ l) : x ∈ rotL turn l l.length := by
  obtain ⟨t, ht, rfl⟩ := List.getElem_of_mem hx
  unfold rotL
  rw [List.mem_filterMap]
  by_cases h : rotI turn l.length ≤ t
  · refine ⟨t - rotI turn l.length, List.mem_range.2 (by omega), ?_⟩
    rw [show t - rotI turn l.length + rotI turn l.length = t by omega, Nat.mod_eq_of_lt ht, List.getElem?_eq_getElem ht]
  · refine ⟨t + l.length - rotI turn l.length, List.mem_range.2 (by omega), ?_⟩
    rw [show t + l.length - rotI turn l.length + rotI turn l.length = t + l.length by omega, Nat.add_mod_right, Nat.mod_eq_of_lt ht, List.getElem?_eq_getElem ht]
theorem rotI_lt (turn : Int) (m : Nat) (hm : 0 < m) : rotI turn m < m := by
  unfold rotI
  have h1 : turn.tmod m < m := Int.tmod_lt_of_pos turn (by omega)
  have h2 : -(m : Int) < turn.tmod m := by
    have := Int.tmod_lt_of_pos (-turn) (b := m) (by omega)
    rw [Int.neg_tmod] at this
    omega
  have h3 : 0 ≤ (turn.tmod m + m).tmod m := Int.tmod_nonneg _ (by omega)
  have h4 : (turn.tmod m + m).tmod m < m := Int.tmod_lt_of_pos _ (by omega)
  omega
theorem rot_num (turn : Int) (m i : Nat) (hi : i < m) (hm : m ≤ 40) : ∃ k : Nat, k < m ∧ k = (i + rotI turn m) % m ∧ wrap64 (turn.tmod (m : Int) + (m : Int)) = turn.tmod m + m ∧ wrap64 ((i : Int) + (turn.tmod (m : Int) + (m : Int)).tmod (m : Int)) = (i : Int) + (turn.tmod (m : Int) + (m : Int)).tmod (m : Int) ∧ ((i : Int) + (turn.tmod (m : Int) + (m : Int)).tmod (m : Int)).tmod (m : Int) = (k : Int) := by
  have hm0 : 0 < m := by omega
  have hr := rotI_lt turn m hm0
  have h1 : turn.tmod m < m := Int.tmod_lt_of_pos turn (by omega)
  have h2 : -(m : Int) < turn.tmod m := by
    have := Int.tmod_lt_of_pos (-turn) (b := m) (by omega)
    rw [Int.neg_tmod] at this
    omega
  have h3 : 0 ≤ (turn.tmod m + m).tmod m := Int.tmod_nonneg _ (by omega)
  have h4 : ((rotI turn m : Nat) : Int) = (turn.tmod m + m).tmod m := by unfold rotI; omega
  refine ⟨(i + rotI turn m) % m, Nat.mod_lt _ hm0, rfl, ?_, ?_, ?_⟩
  · rw [IntWalk.wrap64_in _ (by omega)]
  · rw [← h4, IntWalk.wrap64_in _ (by omega)]
  · rw [← h4, Int.tmod_eq_emod_of_nonneg (by omega)]
    rw [show ((i : Int) + ((rotI turn m : Nat) : Int)) = ((i + rotI turn m : Nat) : Int) by omega]
    exact (Int.natCast_emod _ _).symm
theorem or_end {a l b : List Pt} {turn : Int} (h : OrR a l) (hb : OrB l b (rotL turn l l.length)) : b = a := by
  refine rise_ext (arePt_rise hb.ar) (arePt_rise h.ar) (fun x => ?_)
  rw [hb.eq x, h.eq x]
  constructor
  · exact hb.sub x
  · intro hx
    have hm : 0 < l.length := List.length_pos_of_mem hx
    exact rotL_all turn l hm (rotI_lt turn l.length hm) x hx
theorem tput_ok {a : List Pt} {x : Pt} (h : arePt a = true) : (ptOk x = true ∧ tputE a x = 0 ∧ tputL a x = insT a x) ∨ (ptOk x = false ∧ tputE a x = 1) := by
  cases hx : ptOk x with
  | true => exact .inl ⟨rfl, by unfold tputE; rw [if_pos ⟨h, hx⟩], by have e : tputE a x = 0 := by { unfold tputE; rw [if_pos ⟨h, hx⟩] }; unfold tputL; rw [if_pos e]⟩
  | false => exact .inr ⟨rfl, by unfold tputE; rw [if_neg (fun e => by rw [hx] at e; exact absurd e.2 (by simp))]⟩
theorem few_are {a : List Pt} (h : arePt a = true) : FewT a := ⟨by have := arePt_len h; omega, arePt_all h⟩
end Go.Proofs.Ytbiapepalkdkdab
namespace Go.Proofs.Ytbiapepalkdkdab
open Go.RowKit Go.Maps
set_option linter.unusedVariables false
set_option linter.unusedSimpArgs false

/-- what the law has in memory: the parts that were put, those that count -/
structure OrS (w : World) (q : List (Value × Pt)) (va vl : Value) (qa ql : List (Value × Pt)) (W : World) : Prop where
  a : PtI W va qa
  l : RowC W vl ql.length (tqC ql)
  sub : ∀ y ∈ ql, y ∈ q
  b : Below w.heap.size w W
section
variable {w W W' : World} {q qa ql : List (Value × Pt)} {va vl : Value}
theorem OrS.next (h : OrS w q va vl qa ql W) (hb : Below W.heap.size W W') : OrS w q va vl qa ql W' := ⟨h.a.next hb, h.l.next hb, h.sub, below_on h.b hb⟩
theorem OrS.drewN (h : OrS w q va vl qa ql W) (n : Nat) : OrS w q va vl qa ql (W.drewN n) := h.next (below_drewN (Below.refl _ _) n)
theorem OrS.pt (h : OrS w q va vl qa ql W) {v : Value} (hv : PtI w v q) : PtI W vl ql := ⟨h.l, fun y hy => (hv.2 y (h.sub y hy)).next h.b⟩
end
theorem flq_succ (ql : List (Value × Pt)) (n : Int) (k : Nat) (hk : k < ql.length) : (neK n ql[k].2 = true → (ql.take (k + 1)).filter (fun y => neK n y.2) = (ql.take k).filter (fun y => neK n y.2) ++ [ql[k]]) ∧ (neK n ql[k].2 = false → (ql.take (k + 1)).filter (fun y => neK n y.2) = (ql.take k).filter (fun y => neK n y.2)) := by
  rw [List.take_succ_eq_append_getElem hk, List.filter_append]
  constructor
  · intro h
    simp [h]
  · intro h
    simp [h]
theorem flq_tq (ql : List (Value × Pt)) (n : Int) : tqL (ql.filter (fun y => neK n y.2)) = (tqL ql).filter (neK n) := by
  unfold tqL
  rw [List.filter_map]
  rfl
set_option maxRecDepth 100000 in
set_option maxHeartbeats 8000000 in
theorem partsOrder_walk (v0 : Value) (q : List (Value × Pt)) (turn : Int) (w : World) (hv : PtI w v0 q) (hz : q.length * 56 ≤ 140737488355328) (hy : ∀ y ∈ q, ibulk.SzTb y.2) (_hid : (Lit.int .i64 turn).wf = true) :
    Calls Try.prog 8 #[v0, .int .i64 turn] w fun e w' => e = .returned (.bool true) ∧ Below w.heap.size w w' := by
  have HVV := hid hv
  obtain ⟨av, cv, rfl, hc⟩ := hv.form
  have HC := hid hc
  have HL : Hid (q.length ≤ 8796093022208) := by show _ ≤ _; omega
  have AW := hid (awake14 w)
  have PT : Hid (∀ va qa (y : Value × Pt) W, PtI W va qa → y ∈ q → Below w.heap.size w W → arePt (tqL qa) = true → Calls Try.prog 9 #[va, ptV y] W (GiveT W (tputL (tqL qa) y.2) (tputE (tqL qa) y.2))) := fun va qa y W ha hy' hW har => tput_any va qa y.1 y.2 W ha ((hv.2 y hy').next hW) (by have := arePt_len har; rw [tqL_len] at this; omega)
  have HPC : Hid (∀ y ∈ q, ∃ a c, y.1 = .slice a y.2.ps.length c) := fun y hy' => (hv.2 y hy').sl
  clear hc hz hy _hid hv
  go_enter Try.func8, Try.ntmps8
  go_wp2_with fail
  refine AW.out.mono ?_
  rintro e w1 ⟨rfl, b1⟩
  have O1 : Hid (OrS w q (.slice none 0 0) (.slice none 0 0) [] [] w1) := ⟨pti_none _, .inl ⟨none, 0, rfl, rfl, rfl⟩, fun y hy => (by cases hy), b1⟩
  clear AW b1
  go_wp2
  go_loopw [5, 6, 7] (fun a l i wr => ∃ (k : Nat) (aa : Option Addr) (na ca : Nat) (al : Option Addr) (nl cl : Nat) (qa ql : List (Value × Pt)), k ≤ q.length ∧ k ≤ 40 ∧ a = .slice aa na ca ∧ l = .slice al nl cl ∧ i = .int .i64 (k : Int) ∧ Hid (ql.length = nl ∧ nl ≤ k) ∧ Hid (OrR (tqL qa) (tqL ql)) ∧ Hid (OrS w q (.slice aa na ca) (.slice al nl cl) qa ql wr)) (fun _ _ i _ => q.length - (intOf i).toNat)
  case atStart => exact ⟨0, none, 0, 0, none, 0, 0, [], [], Nat.zero_le _, by omega, rfl, rfl, rfl, ⟨rfl, Nat.le_refl _⟩, orR_nil, O1⟩
  case round =>
    clear O1
    obtain ⟨k, aa, na, ca, al, nl, cl, qa, ql, hk, hk40, rfl, rfl, rfl, HN, HR, HO⟩ := hrel
    by_cases hlt : k < q.length ∧ k < 40
    · obtain ⟨hlt, hlt40⟩ := hlt
      have hk1 : (k : Int) < (q.length : Int) := by omega
      have hk0 : (0 : Int) ≤ (k : Int) := by omega
      have hd1 : decide ((k : Int) < (q.length : Int)) = true := decide_eq_true hk1
      have hd2 : decide (k < q.length) = true := decide_eq_true hlt
      have hd3 : decide ((k : Int) < 40) = true := decide_eq_true (by omega)
      have hd4 : decide (k < 40) = true := decide_eq_true hlt40
      have hwk : wrap64 ((k : Int) + 1) = ((k + 1 : Nat) : Int) := by rw [IntWalk.wrap64_in _ (by omega)]; omega
      obtain ⟨b, off, rfl, hb, c0, c1, c2, c3, hp⟩ := HC.out k hlt
      have HCE : Hid (∀ W, Below w.heap.size w W → W.cell? ⟨b, off + k * 4, none⟩ = some (.int .i64 q[k].2.n) ∧ W.cell? ⟨b, off + k * 4 + 1, none⟩ = some (.int .i64 q[k].2.sz) ∧ W.cell? ⟨b, off + k * 4 + 2, none⟩ = some (.string q[k].2.sum) ∧ W.cell? ⟨b, off + k * 4 + 3, none⟩ = some q[k].1) := fun W hW => ⟨(hW.cell hb).trans c0, (hW.cell hb).trans c1, (hW.cell hb).trans c2, (hW.cell hb).trans c3⟩
      have P1 := hid (PT.out _ qa q[k] wr HO.out.a (List.getElem_mem hlt) HO.out.b HR.out.ar)
      have HTO := hid (tput_ok (x := q[k].2) HR.out.ar)
      have HST : Hid (ptOk q[k].2 = true → OrR (insT (tqL qa) q[k].2) ((tqL ql).filter (neK q[k].2.n) ++ [q[k].2])) := fun h => HR.out.step h
      have HMQ : Hid (q[k] ∈ q) := List.getElem_mem hlt
      have HLT : Hid (k < q.length ∧ k < 40) := ⟨hlt, hlt40⟩
      have hpf := hp.sl
      unfold ptV at P1
      clear HC HL PT HPC c0 c1 c2 c3 hp hb
      generalize hzz : q[k] = z at *
      clear hzz hk hlt hk40 hlt40
      obtain ⟨zv, zn, zsz, zsum, zps⟩ := z
      simp only at *
      obtain ⟨za, zc, rfl⟩ := hpf
      generalize hzl : zps.length = zl at *
      clear hzl
      obtain ⟨d0, d1, d2, d3⟩ := HCE.out _ HO.out.b
      rcases HTO.out with ⟨hok, hte, htl⟩ | ⟨hok, hte⟩
      case inr =>
        rw [hte] at P1
        clear HTO HST hok hte
        go_wp2_with fail
        refine P1.out.mono ?_
        rintro e w2 ⟨ad2, n2, cp2, q2, rfl, hq2, o2, b2⟩
        have O2 := hid (HO.out.next b2)
        have HN2 : Hid (ql.length = nl ∧ nl ≤ k + 1) := ⟨HN.out.1, Nat.le_succ_of_le HN.out.2⟩
        clear P1 hq2 o2 b2 HO HN d0 d1 d2 d3 HCE HMQ
        go_wp2
        exact ⟨⟨k + 1, _, _, _, _, _, _, qa, ql, HLT.out.1, HLT.out.2, rfl, rfl, by first | rw [hwk] | rfl | simp, HN2, HR, O2⟩, by (try rw [hwk]); have := HLT.out.1; simp [intOf]; omega⟩
      rw [hte, htl] at P1
      have HR2 := hid (HST.out hok)
      have HOK := hid hok
      clear HTO HST hok hte htl HR
      go_wp2_with fail
      refine P1.out.mono ?_
      rintro e w2 ⟨ad2, n2, cp2, q2, rfl, hq2, o2, b2⟩
      have O2 : Hid (OrS w q (.slice ad2 n2 cp2) (.slice al nl cl) q2 ql w2) := ⟨o2.pt, HO.out.l.next b2, HO.out.sub, below_on HO.out.b b2⟩
      have HQ2 := hid hq2
      clear P1 hq2 o2 b2 HO d0 d1 d2 d3
      have R0 : Hid (w2.ownsRow w2.heap.size 25 4 (.slice none 0 0) 0 (tqC ((ql.take 0).filter (fun y => neK zn y.2)))) := ⟨rfl, .inl ⟨rfl, rfl⟩⟩
      go_wp2
      go_loopw [10, 11] (fun r j wr => ∃ (m x : Nat) (ar : Option Addr) (cr : Nat), m ≤ nl ∧ x ≤ m ∧ r = .slice ar x cr ∧ j = .int .i64 (m : Int) ∧ Hid (((ql.take m).filter (fun y => neK zn y.2)).length = x ∧ wr.ownsRow w2.heap.size 25 4 (.slice ar x cr) x (tqC ((ql.take m).filter (fun y => neK zn y.2)))) ∧ Hid (Below w2.heap.size w2 wr)) (fun _ j _ => nl - (intOf j).toNat)
      case atStart => exact ⟨0, 0, none, 0, Nat.zero_le _, Nat.le_refl _, rfl, rfl, ⟨by simp, R0.out⟩, Below.refl _ _⟩
      case round =>
        clear R0
        obtain ⟨m, x, ar, cr, hm, hxm, rfl, rfl, HRR, HBB⟩ := hrel
        have OR := hid (O2.out.next HBB.out)
        by_cases hml : m < nl
        · have hm1 : (m : Int) < (nl : Int) := by omega
          have hm0 : (0 : Int) ≤ (m : Int) := by omega
          have hm40 : m ≤ 40 := by have h1 := HN.out; have h2 := HLT.out; omega
          have hwm : wrap64 ((m : Int) + 1) = ((m + 1 : Nat) : Int) := by rw [IntWalk.wrap64_in _ (by omega)]; omega
          have hmq : m < ql.length := by have := HN.out; omega
          have HCL := hid (PtI.form (OR.out.pt HVV.out))
          obtain ⟨aL, cL, eL, hL⟩ := HCL.out
          injection eL with eL1 eL2 eL3
          subst eL1 eL3
          obtain ⟨bL, oL, eM, hbL, l0, l1, l2, l3, hpL⟩ := hL m hmq
          subst eM
          have d0 := (HCE.out _ OR.out.b).1
          have HFS := hid (flq_succ ql zn m hmq)
          have hpf := hpL.sl
          have HML := hid hml
          have HQ1 : Hid (x + 1 ≤ 4611686018427387904) := by show _ ≤ _; omega
          have HQ2x : Hid ((x + 1) * 56 ≤ 140737488355328) := by show _ ≤ _; omega
          have HXM := hid hxm
          have HNK : Hid (neK zn ql[m].2 = !decide (ql[m].2.n = zn)) := rfl
          have HCM : Hid (∀ W, Below wr.heap.size wr W → W.cell? ⟨bL, oL + m * 4, none⟩ = some (.int .i64 ql[m].2.n) ∧ W.cell? ⟨bL, oL + m * 4 + 1, none⟩ = some (.int .i64 ql[m].2.sz) ∧ W.cell? ⟨bL, oL + m * 4 + 2, none⟩ = some (.string ql[m].2.sum) ∧ W.cell? ⟨bL, oL + m * 4 + 3, none⟩ = some ql[m].1) := fun W hW => ⟨(hW.cell hbL).trans l0, (hW.cell hbL).trans l1, (hW.cell hbL).trans l2, (hW.cell hbL).trans l3⟩
          clear HCL hL eL2 hbL hpL HN HCE HVV
          generalize hyy : ql[m] = y at *
          clear hyy hmq hm hml hm40 hxm
          obtain ⟨yv, yn, ysz, ysum, yps⟩ := y
          simp only at *
          obtain ⟨ya, yc, rfl⟩ := hpf
          generalize hyl : yps.length = yl at *
          clear hyl
          by_cases hne : yn = zn
          · have g1 : (yn == zn) = true := beq_iff_eq.2 hne
            have g2 : (yn != zn) = false := by rw [hne]; simp
            have HF := hid (HFS.out.2 (by rw [HNK.out, decide_eq_true hne]; rfl))
            clear HFS HNK hne HCM l1 l2 l3
            go_wp2
            go_quiet (fail)
            have B2 := hid (below_drewN HBB.out nq)
            have R2 : Hid (((ql.take (m + 1)).filter (fun y => neK zn y.2)).length = x ∧ (wr.drewN nq).ownsRow w2.heap.size 25 4 (.slice ar x cr) x (tqC ((ql.take (m + 1)).filter (fun y => neK zn y.2)))) := by
              show _ ∧ _
              rw [HF.out]
              exact ⟨HRR.out.1, ((below_drewN (Below.refl wr.heap.size wr) nq).keep (fun _ => False)).ownsRow HRR.out.2 (fun _ _ h => h)⟩
            clear OR d0 l0 HBB HRR HF
            go_wp2
            exact ⟨⟨m + 1, x, _, _, HML.out, Nat.le_succ_of_le HXM.out, rfl, by first | rw [hwm] | rfl | simp, R2, B2⟩, by (try rw [hwm]); have := HML.out; simp [intOf]; omega⟩
          · have g1 : (yn == zn) = false := beq_eq_false_iff_ne.2 hne
            have g2 : (yn != zn) = true := bne_iff_ne.2 hne
            have HF := hid (HFS.out.1 (by rw [HNK.out, decide_eq_false hne]; rfl))
            clear HFS HNK hne
            go_wp2
            go_quiet (fail)
            have B2 := hid (below_drewN HBB.out nq)
            have HDW := hid (below_drewN (Below.refl wr.heap.size wr) nq)
            have HR4 : Hid ((wr.drewN nq).ownsRow w2.heap.size 25 4 (.slice ar x cr) x (tqC ((ql.take m).filter (fun y => neK zn y.2)))) := (HDW.out.keep (fun _ => False)).ownsRow HRR.out.2 (fun _ _ h => h)
            have HLN := hid HRR.out.1
            obtain ⟨m0, m1, m2, m3⟩ := HCM.out _ HDW.out
            clear OR d0 l0 l1 l2 l3 HBB HRR HCM HDW
            generalize wr.drewN nq = w4 at *
            have HGA : Hid ((w4.alloc (.cells #[.int .i64 yn, .int .i64 ysz, .string ysum, .slice ya yl yc] 25)).ownsRow (w2.heap.size) 25 4 (.slice ar x cr) (x) (tqC ((ql.take m).filter (fun y => neK zn y.2)))) := (keep_alloc (fun _ => False) w4 (.cells #[.int .i64 yn, .int .i64 ysz, .string ysum, .slice ya yl yc] 25)).ownsRow HR4.out (fun _ _ h => h)
            have HGX : Hid (GSrc (w4.alloc (.cells #[.int .i64 yn, .int .i64 ysz, .string ysum, .slice ya yl yc] 25)) (.slice (some ⟨w4.heap.size, 0, none⟩) 1 1) 1 (ptC (.slice ya yl yc, ⟨yn, ysz, ysum, yps⟩))) := gsrc_block (heap_alloc_new _ _)
            have HO1 : Hid (∀ u ∈ ptC (.slice ya yl yc, ⟨yn, ysz, ysum, yps⟩), u.oneCell' = true) := ptC_cell _ _ _ _
            have HX2 : Hid ((ptC (.slice ya yl yc, ⟨yn, ysz, ysum, yps⟩)).length = 1 * 4) := rfl
            have HSZ : Hid (w2.heap.size ≤ (w4.alloc (.cells #[.int .i64 yn, .int .i64 ysz, .string ysum, .slice ya yl yc] 25)).heap.size) := Nat.le_trans B2.out.size (keep_alloc (fun _ => False) _ _).size
            have FIN : Hid (∀ ad' cap' w', w'.ownsRow w2.heap.size 25 4 (.slice ad' (x + 1) cap') (x + 1) (tqC ((ql.take m).filter (fun y => neK zn y.2)) ++ ptC (.slice ya yl yc, ⟨yn, ysz, ysum, yps⟩)) → Keep (fun j => (Value.slice ar x cr).ownBlock = some j) (w4.alloc (.cells #[.int .i64 yn, .int .i64 ysz, .string ysum, .slice ya yl yc] 25)) w' → Hid (((ql.take (m + 1)).filter (fun y => neK zn y.2)).length = x + 1 ∧ w'.ownsRow w2.heap.size 25 4 (.slice ad' (x + 1) cap') (x + 1) (tqC ((ql.take (m + 1)).filter (fun y => neK zn y.2)))) ∧ Hid (Below w2.heap.size w2 w')) := fun ad' cap' w' hr hk' => by
              refine ⟨?_, (below_al B2.out _).trans (keep_below hk' (fun j hj e => by have := ownsRow_ge HGA.out e; omega) HSZ.out)⟩
              show _ ∧ _
              rw [HF.out, List.length_append, HLN.out, tqC_app, tqC_one]
              exact ⟨rfl, hr⟩
            clear HF HLN HR4 B2
            generalize ptC (.slice ya yl yc, ⟨yn, ysz, ysum, yps⟩) = XS at *
            generalize tqC ((ql.take m).filter (fun y => neK zn y.2)) = PA at *
            go_wp2_with (at_builtin; refine wpl_gappL rfl _ _ elT rfl (w2.heap.size) (.slice ar x cr) (.slice (some ⟨w4.heap.size, 0, none⟩) 1 1) PA XS (x) 1 (x + 1) rfl rfl rfl HGA.out HSZ.out HGX.out HX2.out HO1.out HQ1.out HQ2x.out ?_; intro ad' cap' w' hr' hk')
            obtain ⟨F1, F2⟩ := FIN.out _ _ _ hr' hk'
            clear hr' hk' FIN HGA HGX HSZ HO1 HX2 m0 m1 m2 m3
            go_wp2
            exact ⟨⟨m + 1, x + 1, _, _, HML.out, Nat.succ_le_succ HXM.out, rfl, by first | rw [hwm] | rfl | simp, F1, F2⟩, by (try rw [hwm]); have := HML.out; simp [intOf]; omega⟩
        · have hme : m = nl := by omega
          have hd5 : decide ((m : Int) < (nl : Int)) = false := decide_eq_false (by omega)
          have hd6 : decide (m < nl) = false := decide_eq_false hml
          have HAL : Hid ((ql.take m).filter (fun y => neK zn y.2) = ql.filter (fun y => neK zn y.2)) := by show _ = _; rw [hme, ← HN.out.1, List.take_length]
          rw [HAL.out] at HRR
          have HXB : Hid (x ≤ 40 ∧ x + 1 ≤ k + 1) := by have h1 := HN.out; have h2 := HLT.out; exact ⟨by omega, by omega⟩
          obtain ⟨d0, d1, d2, d3⟩ := HCE.out _ OR.out.b
          have HQ1 : Hid (x + 1 ≤ 4611686018427387904) := by have := HXB.out; show _ ≤ _; omega
          have HQ2x : Hid ((x + 1) * 56 ≤ 140737488355328) := by have := HXB.out; show _ ≤ _; omega
          have HR4 := hid HRR.out.2
          have HLN := hid HRR.out.1
          clear HRR HCE HN HVV hm hme hml hxm HAL
          have HGA : Hid ((wr.alloc (.cells #[.int .i64 zn, .int .i64 zsz, .string zsum, .slice za zl zc] 25)).ownsRow (w2.heap.size) 25 4 (.slice ar x cr) (x) (tqC (ql.filter (fun y => neK zn y.2)))) := (keep_alloc (fun _ => False) wr (.cells #[.int .i64 zn, .int .i64 zsz, .string zsum, .slice za zl zc] 25)).ownsRow HR4.out (fun _ _ h => h)
          have HGX : Hid (GSrc (wr.alloc (.cells #[.int .i64 zn, .int .i64 zsz, .string zsum, .slice za zl zc] 25)) (.slice (some ⟨wr.heap.size, 0, none⟩) 1 1) 1 (ptC (.slice za zl zc, ⟨zn, zsz, zsum, zps⟩))) := gsrc_block (heap_alloc_new _ _)
          have HO1 : Hid (∀ u ∈ ptC (.slice za zl zc, ⟨zn, zsz, zsum, zps⟩), u.oneCell' = true) := ptC_cell _ _ _ _
          have HX2 : Hid ((ptC (.slice za zl zc, ⟨zn, zsz, zsum, zps⟩)).length = 1 * 4) := rfl
          have HSZ : Hid (w2.heap.size ≤ (wr.alloc (.cells #[.int .i64 zn, .int .i64 zsz, .string zsum, .slice za zl zc] 25)).heap.size) := Nat.le_trans HBB.out.size (keep_alloc (fun _ => False) _ _).size
          have FIN : Hid (∀ ad' cap' w', w'.ownsRow w2.heap.size 25 4 (.slice ad' (x + 1) cap') (x + 1) (tqC (ql.filter (fun y => neK zn y.2)) ++ ptC (.slice za zl zc, ⟨zn, zsz, zsum, zps⟩)) → Keep (fun j => (Value.slice ar x cr).ownBlock = some j) (wr.alloc (.cells #[.int .i64 zn, .int .i64 zsz, .string zsum, .slice za zl zc] 25)) w' → Hid ((ql.filter (fun y => neK zn y.2) ++ [((.slice za zl zc, ⟨zn, zsz, zsum, zps⟩) : Value × Pt)]).length = x + 1 ∧ x + 1 ≤ k + 1) ∧ Hid (OrR (tqL q2) (tqL (ql.filter (fun y => neK zn y.2) ++ [((.slice za zl zc, ⟨zn, zsz, zsum, zps⟩) : Value × Pt)]))) ∧ Hid (OrS w q (.slice ad2 n2 cp2) (.slice ad' (x + 1) cap') q2 (ql.filter (fun y => neK zn y.2) ++ [((.slice za zl zc, ⟨zn, zsz, zsum, zps⟩) : Value × Pt)]) w')) := fun ad' cap' w' hr hk' => by
            have hln : (ql.filter (fun y => neK zn y.2) ++ [((.slice za zl zc, ⟨zn, zsz, zsum, zps⟩) : Value × Pt)]).length = x + 1 := by rw [List.length_append, HLN.out]; rfl
            have hbw : Below w2.heap.size w2 w' := (below_al HBB.out _).trans (keep_below hk' (fun j hj e => by have := ownsRow_ge HGA.out e; omega) HSZ.out)
            refine ⟨⟨hln, HXB.out.2⟩, ?_, ⟨O2.out.a.next hbw, ?_, fun y hy => ?_, below_on O2.out.b hbw⟩⟩
            · show OrR _ _
              rw [tqL_app, flq_tq, HQ2.out]
              exact HR2.out
            · have := RowC.own hr
              rw [hln, tqC_app, tqC_one]
              exact this
            · rcases List.mem_append.1 hy with e | e
              · exact O2.out.sub y (List.mem_filter.1 e).1
              · rw [List.mem_singleton.1 e]; exact HMQ.out
          clear HLN HR4 O2 OR HBB HR2 HQ2 HMQ HXB
          generalize hLL : ql.filter (fun y => neK zn y.2) ++ [((.slice za zl zc, ⟨zn, zsz, zsum, zps⟩) : Value × Pt)] = LL at *
          clear hLL
          generalize ptC (.slice za zl zc, ⟨zn, zsz, zsum, zps⟩) = XS at *
          generalize tqC (ql.filter (fun y => neK zn y.2)) = PA at *
          go_wp2_with (at_builtin; refine wpl_gappL rfl _ _ elT rfl (w2.heap.size) (.slice ar x cr) (.slice (some ⟨wr.heap.size, 0, none⟩) 1 1) PA XS (x) 1 (x + 1) rfl rfl rfl HGA.out HSZ.out HGX.out HX2.out HO1.out HQ1.out HQ2x.out ?_; intro ad' cap' w' hr' hk')
          obtain ⟨F1, F2, F3⟩ := FIN.out _ _ _ hr' hk'
          clear hr' hk' FIN HGA HGX HSZ HO1 HX2 d0 d1 d2 d3
          go_wp2
          exact ⟨⟨k + 1, _, _, _, _, _, _, q2, LL, HLT.out.1, HLT.out.2, rfl, rfl, by first | rw [hwk] | rfl | simp, F1, F2, F3⟩, by (try rw [hwk]); have := HLT.out.1; simp [intOf]; omega⟩
    · have HNL : Hid (ql.length = nl ∧ nl ≤ 40) := ⟨HN.out.1, by have := HN.out.2; omega⟩
      have HB0 : Hid (OrB (tqL ql) (tqL []) (rotL turn (tqL ql) 0)) := ⟨rfl, fun x => Iff.rfl, fun x hx => (by cases hx)⟩
      clear HN HL HPC HC
      by_cases hl1 : k < q.length
      · have hd1 : decide ((k : Int) < (q.length : Int)) = true := decide_eq_true (by omega)
        have hd2 : decide (k < q.length) = true := decide_eq_true hl1
        have hd3 : decide ((k : Int) < 40) = false := decide_eq_false (by omega)
        have hd4 : decide (k < 40) = false := decide_eq_false (by omega)
        clear hlt hk hk40 hl1
        go_wp2
        go_loopw [12, 13] (fun bb i wr => ∃ (m : Nat) (ab : Option Addr) (nb cb : Nat) (qb : List (Value × Pt)), m ≤ nl ∧ bb = .slice ab nb cb ∧ i = .int .i64 (m : Int) ∧ Hid (OrB (tqL ql) (tqL qb) (rotL turn (tqL ql) m)) ∧ Hid (OrS w q (.slice aa na ca) (.slice al nl cl) qa ql wr ∧ PtI wr (.slice ab nb cb) qb)) (fun _ i _ => nl - (intOf i).toNat)
        case atStart => exact ⟨0, none, 0, 0, [], Nat.zero_le _, rfl, rfl, HB0, ⟨HO.out, pti_none _⟩⟩
        case round =>
          clear HB0 HO
          obtain ⟨m, ab, nb, cb, qb, hm, rfl, rfl, HB, HS⟩ := hrel
          by_cases hml : m < nl
          · have hm1 : (m : Int) < (nl : Int) := by omega
            have hm40 : m < 40 := by have h1 := HNL.out; omega
            have hwm : wrap64 ((m : Int) + 1) = ((m + 1 : Nat) : Int) := by rw [IntWalk.wrap64_in _ (by omega)]; omega
            obtain ⟨x, hx, hxe, hw1, hw2, hw3⟩ := rot_num turn nl m hml (by have h1 := HNL.out; omega)
            have hx0 : (0 : Int) ≤ (x : Int) := by omega
            have hx1 : (x : Int) < (nl : Int) := by omega
            have hnz : ¬ ((nl : Int) = 0) := by omega
            have hnz2 : ((nl : Int) == 0) = false := beq_eq_false_iff_ne.2 hnz
            have hxq : x < ql.length := by have := HNL.out; omega
            have HCL := hid (PtI.form (HS.out.1.pt HVV.out))
            obtain ⟨aL, cL, eL, hL⟩ := HCL.out
            injection eL with eL1 eL2 eL3
            subst eL1 eL3
            obtain ⟨bL, oL, eM, hbL, l0, l1, l2, l3, hpL⟩ := hL x hxq
            subst eM
            have hmem : ql[x].2 ∈ tqL ql := tq_mem (List.getElem_mem hxq)
            have hok : ptOk ql[x].2 = true := arePt_all HR.out.ar _ ((HR.out.eq _).2 hmem)
            have P1 := hid (PT.out _ qb ql[x] wr HS.out.2 (HS.out.1.sub _ (List.getElem_mem hxq)) HS.out.1.b HB.out.ar)
            have hto : tputE (tqL qb) ql[x].2 = 0 ∧ tputL (tqL qb) ql[x].2 = insT (tqL qb) ql[x].2 := by
              rcases tput_ok (x := ql[x].2) HB.out.ar with h | h
              · exact h.2
              · rw [hok] at h; exact absurd h.1 (by simp)
            rw [hto.1, hto.2] at P1
            have HB2 : Hid (OrB (tqL ql) (insT (tqL qb) ql[x].2) (rotL turn (tqL ql) (m + 1))) := by
              have h1 := HB.out.step HR.out.ne hmem hok
              have h2 := rotL_succ turn (tqL ql) m x (by rw [tqL_len, HNL.out.1]; exact hxe) (by rw [tqL_len]; exact hxq)
              rw [tqL_get ql x hxq] at h2
              show OrB _ _ _
              rw [h2]
              exact h1
            have hpf := hpL.sl
            have HML := hid hml
            unfold ptV at P1
            clear HCL hL eL2 hbL hpL hmem hok hto HB
            generalize hyy : ql[x] = y at *
            clear hyy hxe hxq
            obtain ⟨yv, yn, ysz, ysum, yps⟩ := y
            simp only at *
            obtain ⟨ya, yc, rfl⟩ := hpf
            generalize hyl : yps.length = yl at *
            clear hyl HNL PT HVV HR hm hml hm40 hx
            go_wp2_with fail
            refine P1.out.mono ?_
            rintro e w3 ⟨ad3, n3, cp3, q3, rfl, hq3, o3, b3⟩
            have HS3 : Hid (OrS w q (.slice aa na ca) (.slice (some ⟨bL, oL, none⟩) nl cl) qa ql w3 ∧ PtI w3 (.slice ad3 n3 cp3) q3) := ⟨HS.out.1.next b3, o3.pt⟩
            have HB3 : Hid (OrB (tqL ql) (tqL q3) (rotL turn (tqL ql) (m + 1))) := by have := HB2.out; rw [← hq3] at this; exact this
            clear P1 hq3 o3 b3 HS HB2 l0 l1 l2 l3
            go_wp2
            exact ⟨⟨m + 1, _, _, _, q3, HML.out, rfl, by first | rw [hwm] | rfl | simp, HB3, HS3⟩, by (try rw [hwm]); have := HML.out; simp [intOf]; omega⟩
          · have hme : m = nl := by omega
            have hd5 : decide ((m : Int) < (nl : Int)) = false := decide_eq_false (by omega)
            have hd6 : decide (m < nl) = false := decide_eq_false hml
            have HBE : Hid (tqL qb = tqL qa) := or_end HR.out (turn := turn) (by have := HB.out; rw [hme, ← HNL.out.1, ← tqL_len] at this; exact this)
            have FW := hid (few_are HR.out.ar)
            have R1 := hid (trefs_few2 _ qa (tqL qa) wr HS.out.1.a rfl FW.out)
            clear HB HR HNL PT HVV hm hme hml
            go_wp2_with fail
            refine R1.out.mono ?_
            rintro e w3 ⟨ad3, n3, cp3, q3, rfl, I3, K3⟩
            have R3 := hid (trefs_few2 _ qb (tqL qa) w3 (HS.out.2.next K3.out) HBE.out FW.out)
            have B3 := hid (below_on HS.out.1.b K3.out)
            clear R1 HS K3
            go_wp2_with fail
            refine R3.out.mono ?_
            rintro e w4 ⟨ad4, n4, cp4, q4, rfl, I4, K4⟩
            have B4 := hid (below_on B3.out K4.out)
            have S4 := hid (tsame_few _ _ _ _ (tqL qa) w4 (I3.out.1.next K4.out) I4.out.1 I3.out.2 I4.out.2 FW.out)
            clear R3 B3 K4 I3 I4 FW HBE
            go_wp2_with fail
            refine S4.out.mono ?_
            rintro e w5 ⟨rfl, b5⟩
            have B5 := hid (below_on B4.out b5)
            clear S4 b5 B4
            go_wp2
            go_ret
            exact ⟨rfl, B5.out⟩
      · have hd1 : decide ((k : Int) < (q.length : Int)) = false := decide_eq_false (by omega)
        have hd2 : decide (k < q.length) = false := decide_eq_false hl1
        clear hlt hk hk40 hl1
        go_wp2
        go_loopw [12, 13] (fun bb i wr => ∃ (m : Nat) (ab : Option Addr) (nb cb : Nat) (qb : List (Value × Pt)), m ≤ nl ∧ bb = .slice ab nb cb ∧ i = .int .i64 (m : Int) ∧ Hid (OrB (tqL ql) (tqL qb) (rotL turn (tqL ql) m)) ∧ Hid (OrS w q (.slice aa na ca) (.slice al nl cl) qa ql wr ∧ PtI wr (.slice ab nb cb) qb)) (fun _ i _ => nl - (intOf i).toNat)
        case atStart => exact ⟨0, none, 0, 0, [], Nat.zero_le _, rfl, rfl, HB0, ⟨HO.out, pti_none _⟩⟩
        case round =>
          clear HB0 HO
          obtain ⟨m, ab, nb, cb, qb, hm, rfl, rfl, HB, HS⟩ := hrel
          by_cases hml : m < nl
          · have hm1 : (m : Int) < (nl : Int) := by omega
            have hm40 : m < 40 := by have h1 := HNL.out; omega
            have hwm : wrap64 ((m : Int) + 1) = ((m + 1 : Nat) : Int) := by rw [IntWalk.wrap64_in _ (by omega)]; omega
            obtain ⟨x, hx, hxe, hw1, hw2, hw3⟩ := rot_num turn nl m hml (by have h1 := HNL.out; omega)
            have hx0 : (0 : Int) ≤ (x : Int) := by omega
            have hx1 : (x : Int) < (nl : Int) := by omega
            have hnz : ¬ ((nl : Int) = 0) := by omega
            have hnz2 : ((nl : Int) == 0) = false := beq_eq_false_iff_ne.2 hnz
            have hxq : x < ql.length := by have := HNL.out; omega
            have HCL := hid (PtI.form (HS.out.1.pt HVV.out))
            obtain ⟨aL, cL, eL, hL⟩ := HCL.out
            injection eL with eL1 eL2 eL3
            subst eL1 eL3
            obtain ⟨bL, oL, eM, hbL, l0, l1, l2, l3, hpL⟩ := hL x hxq
            subst eM
            have hmem : ql[x].2 ∈ tqL ql := tq_mem (List.getElem_mem hxq)
            have hok : ptOk ql[x].2 = true := arePt_all HR.out.ar _ ((HR.out.eq _).2 hmem)
            have P1 := hid (PT.out _ qb ql[x] wr HS.out.2 (HS.out.1.sub _ (List.getElem_mem hxq)) HS.out.1.b HB.out.ar)
            have hto : tputE (tqL qb) ql[x].2 = 0 ∧ tputL (tqL qb) ql[x].2 = insT (tqL qb) ql[x].2 := by
              rcases tput_ok (x := ql[x].2) HB.out.ar with h | h
              · exact h.2
              · rw [hok] at h; exact absurd h.1 (by simp)
            rw [hto.1, hto.2] at P1
            have HB2 : Hid (OrB (tqL ql) (insT (tqL qb) ql[x].2) (rotL turn (tqL ql) (m + 1))) := by
              have h1 := HB.out.step HR.out.ne hmem hok
              have h2 := rotL_succ turn (tqL ql) m x (by rw [tqL_len, HNL.out.1]; exact hxe) (by rw [tqL_len]; exact hxq)
              rw [tqL_get ql x hxq] at h2
              show OrB _ _ _
              rw [h2]
              exact h1
            have hpf := hpL.sl
            have HML := hid hml
            unfold ptV at P1
            clear HCL hL eL2 hbL hpL hmem hok hto HB
            generalize hyy : ql[x] = y at *
            clear hyy hxe hxq
            obtain ⟨yv, yn, ysz, ysum, yps⟩ := y
            simp only at *
            obtain ⟨ya, yc, rfl⟩ := hpf
            generalize hyl : yps.length = yl at *
            clear hyl HNL PT HVV HR hm hml hm40 hx
            go_wp2_with fail
            refine P1.out.mono ?_
            rintro e w3 ⟨ad3, n3, cp3, q3, rfl, hq3, o3, b3⟩
            have HS3 : Hid (OrS w q (.slice aa na ca) (.slice (some ⟨bL, oL, none⟩) nl cl) qa ql w3 ∧ PtI w3 (.slice ad3 n3 cp3) q3) := ⟨HS.out.1.next b3, o3.pt⟩
            have HB3 : Hid (OrB (tqL ql) (tqL q3) (rotL turn (tqL ql) (m + 1))) := by have := HB2.out; rw [← hq3] at this; exact this
            clear P1 hq3 o3 b3 HS HB2 l0 l1 l2 l3
            go_wp2
            exact ⟨⟨m + 1, _, _, _, q3, HML.out, rfl, by first | rw [hwm] | rfl | simp, HB3, HS3⟩, by (try rw [hwm]); have := HML.out; simp [intOf]; omega⟩
          · have hme : m = nl := by omega
            have hd5 : decide ((m : Int) < (nl : Int)) = false := decide_eq_false (by omega)
            have hd6 : decide (m < nl) = false := decide_eq_false hml
            have HBE : Hid (tqL qb = tqL qa) := or_end HR.out (turn := turn) (by have := HB.out; rw [hme, ← HNL.out.1, ← tqL_len] at this; exact this)
            have FW := hid (few_are HR.out.ar)
            have R1 := hid (trefs_few2 _ qa (tqL qa) wr HS.out.1.a rfl FW.out)
            clear HB HR HNL PT HVV hm hme hml
            go_wp2_with fail
            refine R1.out.mono ?_
            rintro e w3 ⟨ad3, n3, cp3, q3, rfl, I3, K3⟩
            have R3 := hid (trefs_few2 _ qb (tqL qa) w3 (HS.out.2.next K3.out) HBE.out FW.out)
            have B3 := hid (below_on HS.out.1.b K3.out)
            clear R1 HS K3
            go_wp2_with fail
            refine R3.out.mono ?_
            rintro e w4 ⟨ad4, n4, cp4, q4, rfl, I4, K4⟩
            have B4 := hid (below_on B3.out K4.out)
            have S4 := hid (tsame_few _ _ _ _ (tqL qa) w4 (I3.out.1.next K4.out) I4.out.1 I3.out.2 I4.out.2 FW.out)
            clear R3 B3 K4 I3 I4 FW HBE
            go_wp2_with fail
            refine S4.out.mono ?_
            rintro e w5 ⟨rfl, b5⟩
            have B5 := hid (below_on B4.out b5)
            clear S4 b5 B4
            go_wp2
            go_ret
            exact ⟨rfl, B5.out⟩
end Go.Proofs.Ytbiapepalkdkdab
