/- Two majorities meet: on plain lists; and the members whose bits are set. -/
import Derived.Test.YtghcijliknahdabConfG
namespace Go.Proofs.Ytghcijliknahdab
open Go.RowKit Go.Maps
set_option linter.unusedVariables false
set_option linter.unusedSimpArgs false

def smP (f : Nat) (x : Int) : Bool := isNd x && bitC f x
def smL (l : List Int) (f : Nat) : List Int := l.filter (smP f)
/-- is one of a list in another one? -/
def anyI (b : List Int) : List Int → Bool
  | [] => false
  | x :: r => hasI x b || anyI b r
theorem anyI_at {a b : List Int} {k : Nat} (hk : k < a.length) : anyI b (a.drop k) = (hasI a[k] b || anyI b (a.drop (k + 1))) := by
  rw [List.drop_eq_getElem_cons hk]; rfl
theorem anyI_false {a b : List Int} (h : anyI b a = false) : ∀ x ∈ a, hasI x b = false := by
  induction a with
  | nil => intro x hx; cases hx
  | cons y r ih =>
    simp [anyI] at h
    intro x hx
    rcases List.mem_cons.1 hx with e | e
    · subst e; exact h.1
    · exact ih h.2 x e
theorem cntF_two (p q : Int → Bool) (l : List Int) (h : ∀ x ∈ l, ¬ (p x = true ∧ q x = true)) : cntF p l + cntF q l ≤ l.length := by
  induction l with
  | nil => simp [cntF]
  | cons y r ih =>
    have := ih (fun x hx => h x (List.mem_cons_of_mem _ hx))
    have h0 := h y (by simp)
    simp only [cntF, List.length_cons]
    split <;> split
    · exact absurd ⟨by assumption, by assumption⟩ h0
    all_goals omega
theorem cntF_sub (p : Int → Bool) {l m : List Int} (h : l.Sublist m) : cntF p l ≤ cntF p m := by
  induction h with
  | slnil => exact Nat.le_refl _
  | cons y _ ih => simp only [cntF]; omega
  | cons_cons y _ ih => simp only [cntF]; omega
theorem cntF_congr {p q : Int → Bool} {l : List Int} (h : ∀ x ∈ l, p x = q x) : cntF p l = cntF q l := by
  induction l with
  | nil => rfl
  | cons y r ih => simp only [cntF]; rw [h y (by simp), ih (fun x hx => h x (List.mem_cons_of_mem _ hx))]
theorem cmn_cnt (o l : List Int) : cmn o l = cntF (fun x => hasI x o) l := by
  induction l with
  | nil => rfl
  | cons y r ih => simp only [cmn, cntF]; rw [ih]
theorem cmn_sm (l : List Int) (f : Nat) : cmn (smL l f) l = cntF (smP f) l := by
  rw [cmn_cnt]
  refine cntF_congr fun x hx => ?_
  unfold smL
  rw [hasI_filter, hasI_iff.2 hx, Bool.true_and]
theorem cmn_full {o l : List Int} (h : cmn o l = l.length) : ∀ x ∈ l, hasI x o = true := by
  induction l with
  | nil => intro x hx; cases hx
  | cons y r ih =>
    simp only [cmn, List.length_cons] at h
    have hle := cmn_le o r
    intro x hx
    cases hy : hasI y o
    · rw [hy] at h; simp at h; omega
    · rw [hy] at h
      simp at h
      rcases List.mem_cons.1 hx with e | e
      · subst e; exact hy
      · exact ih (by omega) x e
theorem sub_of {a b : List Int} (ha : areM a = true) (hb : areM b = true) (h : cmn b a = a.length) : a.Sublist b := by
  have h1 := cmn_full h
  have e : a = b.filter (fun x => hasI x a) := by
    have eb := (reach_at hb).1
    have ea := (reach_at ha).1
    rw [eb, List.filter_filter]
    refine ea.trans (List.filter_congr fun x _ => ?_)
    cases hx : hasI x a
    · rfl
    · rw [h1 x (hasI_iff.1 hx)]; rfl
  rw [e]
  exact List.filter_sublist
theorem meet_sub {l m : List Int} {f t : Nat} (hs : l.Sublist m) (hl : m.length ≤ l.length + 1) (h1 : l.length / 2 + 1 ≤ cntF (smP f) l) (h2 : m.length / 2 + 1 ≤ cntF (smP t) m) (h3 : ∀ x, x ∈ l → smP f x = true → x ∈ m → smP t x = true → False) : False := by
  have e1 : cntF (smP f) l = cntF (fun x => smP f x && hasI x l) l := cntF_congr fun x hx => by rw [hasI_iff.2 hx, Bool.and_true]
  have e2 := cntF_sub (fun x => smP f x && hasI x l) hs
  have e3 := cntF_two (fun x => smP f x && hasI x l) (smP t) m (fun x hx hc => by
    have := hc.1
    rw [Bool.and_eq_true] at this
    exact h3 x (hasI_iff.1 this.2) this.1 hx hc.2)
  have e4 := hs.length_le
  omega
theorem meet_all {l m : List Int} {f t : Nat} (h1 : engC l (smL l f) = true) (h2 : engC m (smL m t) = true) (h3 : l = m ∨ nearC l m = true) : anyI (smL m t) (smL l f) = true := by
  cases h : anyI (smL m t) (smL l f)
  · exfalso
    have hn := anyI_false h
    have hd : ∀ x, x ∈ l → smP f x = true → x ∈ m → smP t x = true → False := fun x a1 a2 a3 a4 => by
      have := hn x (List.mem_filter.2 ⟨a1, a2⟩)
      unfold smL at this
      rw [hasI_filter, hasI_iff.2 a3, a4] at this
      cases this
    unfold engC at h1 h2
    rw [Bool.and_eq_true, cmn_sm] at h1 h2
    have c1 := of_decide_eq_true h1.2
    have c2 := of_decide_eq_true h2.2
    rcases h3 with h3 | h3
    · subst h3
      exact meet_sub (List.Sublist.refl _) (by omega) c1 c2 hd
    · unfold nearC at h3
      rw [h1.1, h2.1, Bool.true_and, Bool.true_and] at h3
      split at h3
      · rw [Bool.and_eq_true] at h3
        have g1 := of_decide_eq_true h3.1
        have g2 := of_decide_eq_true h3.2
        exact meet_sub (sub_of h2.1 h1.1 g2) (by omega) c2 c1 (fun x a1 a2 a3 a4 => hd x a3 a4 a1 a2)
      · rw [Bool.and_eq_true] at h3
        have g1 := of_decide_eq_true h3.1
        have g2 := of_decide_eq_true h3.2
        exact meet_sub (sub_of h1.1 h2.1 g2) (by omega) c1 c2 hd
  · rfl
theorem smL_at {f : Nat} {l : List Int} {k : Nat} (hk : k < l.length) : smL (l.drop k) f = (if smP f l[k] = true then [l[k]] else []) ++ smL (l.drop (k + 1)) f := by
  rw [List.drop_eq_getElem_cons hk]
  unfold smL
  rw [List.filter_cons]
  split <;> rfl
theorem wpl_iappL {w : World} {ops : Array Oper} {rest : List Oper} {o : Oper} {a : Act} {Q : Exit → Act → World → Prop} (hgd : o.guard = none) (sl x : Operand)
    (ho : o.op = .call { callee := .builtin .append, args := #[sl, x], argTypes := #[22, 22] }) (B g n : Nat) (v : Value) (l : List Int) (y : Int) (hn : l.length = n)
    (hs : a.eval sl = v) (hx : a.eval x = .slice (some ⟨g, 0, none⟩) 1 1) (h0 : OwnI w B v l) (hB : B ≤ w.heap.size) (hg : RowIs w g [.int .i64 y] 3) (hl : (l.length + 1) * 8 ≤ 140737488355328)
    (h : ∀ ad' cap' w', OwnI w' B (.slice ad' (n + 1) cap') (l ++ [y]) → Below B w w' → wpList Try.prog ops Q rest (a.put o.dst (.slice ad' (n + 1) cap')) w') : wpList Try.prog ops Q (o :: rest) a w := by
  subst hn
  refine wpList_plain hgd fun K hK => ?_
  obtain ⟨ad', cap', w', hr, h2, h3⟩ := gappL (m := 1) (x := .slice (some ⟨g, 0, none⟩) 1 1) elInt o.type h0 hB (gsrc_block hg) rfl (fun u hu => by simp at hu; subst hu; rfl) (by omega) hl
  unfold Oper.wp execOp
  simp only [ho, resolve, invoke, builtin, Sem.run_bind, Sem.run_pure, Result.andThen_ok, List.map_toArray, List.map_cons, List.map_nil, hs, hx, hr]
  refine hK _ _ (h ad' cap' w' ?_ (keep_below h3 (fun k hk e => ?_) hB))
  · unfold OwnI
    rw [show isC (l ++ [y]) = isC l ++ [.int .i64 y] by simp [isC], show (l ++ [y]).length = l.length + 1 by simp]
    exact h2
  · have := ownsRow_ge h0 e
    omega
theorem bit_u (f m : Nat) (hf : f < 128) : (bits BinOp.and IntKind.i64 ((f : Int) / 2 ^ m) 1 == 1) = bitC f (m : Int) := bit_is f m hf
set_option maxRecDepth 100000 in
set_option maxHeartbeats 2000000 in
theorem some_any (v : Value) (l : List Int) (f : Nat) (hf : f < 128) (w : World) (hv : IntsI w v l) (hl : l.length ≤ 17592186044416) : Calls Try.prog 5 #[v, .int .i64 (f : Int)] w fun e w' => ∃ v, e = .returned v ∧ OwnI w' w.heap.size v (smL l f) ∧ Below w.heap.size w w' := by
  obtain ⟨ad0, cap0, rfl, hc⟩ := hv.form
  have HC := hid hc
  have HR : Hid (∃ R, R = smL l f) := ⟨_, rfl⟩
  obtain ⟨R, HR⟩ := HR.out
  have HR : Hid (R = smL (l.drop 0) f) := HR
  rw [show smL l f = R from HR.out.symm]
  have HBI := hid (fun k => bit_u f k hf)
  have HL := hid hl
  clear hf hc hv hl
  go_enter Try.func5, Try.ntmps5
  go_wp2
  go_loopw [5, 6] (fun t i wr => ∃ (k : Nat) (acc : List Int) (ad : Option Addr) (cap : Nat), k ≤ l.length ∧ t = .slice ad acc.length cap ∧ i = .int .i64 (k : Int) ∧ Hid (acc.length ≤ k) ∧ Hid (OwnI wr w.heap.size (.slice ad acc.length cap) acc) ∧ Hid (Below w.heap.size w wr) ∧ Hid (R = acc ++ smL (l.drop k) f)) (fun _ i _ => l.length - (intOf i).toNat)
  case atStart => exact ⟨0, [], none, 0, by omega, rfl, rfl, Nat.le_refl _, ownI_nil _ _, Below.refl _ _, by rw [List.nil_append]; exact HR⟩
  case round =>
    clear HR
    obtain ⟨k, acc, ad, cap, hk, rfl, rfl, HA, HO, HB, HR⟩ := hrel
    by_cases hlt : k < l.length
    · have hk0 : (0 : Int) ≤ (k : Int) := by omega
      have hk1 : (k : Int) < (l.length : Int) := by omega
      obtain ⟨b, off, rfl, hb, hc⟩ := HC.out k hlt
      have hc1 := (HB.out.cell (p := ⟨b, off + k, none⟩) hb).trans hc
      have HRA := hid (smL_at (f := f) hlt)
      have hwk : wrap64 ((k : Int) + 1) = ((k + 1 : Nat) : Int) := by have := HL.out; rw [IntWalk.wrap64_in _ (by omega)]; omega
      have HLT := hid hlt
      have HA2 : Hid (acc.length + 1 ≤ k + 1) := by have := HA.out; show _ ≤ _; omega
      have HA3 : Hid ((acc.length + 1) * 8 ≤ 140737488355328) := by have := HA.out; have := HL.out; show _ ≤ _; omega
      have HA4 : Hid (acc.length ≤ k + 1) := by have := HA.out; show _ ≤ _; omega
      generalize l[k] = y at *
      have HNX : Hid (RowIs (wr.alloc (.cells #[.int .i64 y] 3)) wr.heap.size [.int .i64 y] 3) := srow wr [.int .i64 y] 3
      have HON : Hid (OwnI (wr.alloc (.cells #[.int .i64 y] 3)) w.heap.size (.slice ad acc.length cap) acc) := own_new HO.out _
      have HBN : Hid (Below w.heap.size w (wr.alloc (.cells #[.int .i64 y] 3))) := HB.out.alloc HB.out.size _
      clear HC hb hc HL HA hlt hk
      by_cases y0 : 0 ≤ y
      · by_cases y7 : y < 7
        · obtain ⟨m, rfl⟩ : ∃ m : Nat, y = (m : Int) := ⟨y.toNat, by omega⟩
          have hwu : IntKind.u64.wrap (m : Int) = (m : Int) := by rw [IntKind.wrap_u64]; omega
          have hbi := HBI.out m
          have hm7 : m < 7 := by omega
          have HSP : Hid (smP f (m : Int) = bitC f (m : Int)) := by show _ = _; unfold smP isNd; rw [decide_eq_true y0, decide_eq_true y7]; rfl
          cases hq : bitC f (m : Int)
          · rw [hq] at hbi
            have HR2 : Hid (R = acc ++ smL (l.drop (k + 1)) f) := by show _ = _; rw [HR.out, HRA.out, HSP.out, hq]; rfl
            clear HR HRA HNX HON HBN HA2 HA3 hq HBI HSP
            go_wp2
            exact ⟨⟨k + 1, acc, ad, cap, HLT.out, rfl, by first | rw [hwk] | rfl | simp, HA4, HO, HB, HR2⟩, by rw [hwk]; have := HLT.out; simp [intOf]; omega⟩
          · rw [hq] at hbi
            have HR2 : Hid (R = (acc ++ [(m : Int)]) ++ smL (l.drop (k + 1)) f) := by show _ = _; rw [HR.out, HRA.out, HSP.out, hq, if_pos rfl, List.append_assoc]
            clear HR HRA HA4 HO HB hq HBI HSP
            go_wp2_with (at_builtin; refine wpl_iappL rfl _ _ rfl w.heap.size wr.heap.size acc.length (.slice ad acc.length cap) acc (m : Int) rfl rfl rfl HON.out HBN.out.size HNX.out HA3.out ?_; intro ad' cap' w' ho' hk')
            have HO' := hid ho'
            have HB' : Hid (Below w.heap.size w w') := HBN.out.trans hk'
            clear ho' hk' HON HBN HNX
            go_wp2
            exact ⟨⟨k + 1, acc ++ [(m : Int)], ad', cap', HLT.out, by simp, by first | rw [hwk] | rfl | simp, hid (by simpa using HA2.out), hid (by simpa using HO'.out), HB', HR2⟩, by rw [hwk]; have := HLT.out; simp [intOf]; omega⟩
        · have d0 : decide (0 ≤ y) = true := decide_eq_true y0
          have d7 : decide (y < 7) = false := decide_eq_false y7
          have HR2 : Hid (R = acc ++ smL (l.drop (k + 1)) f) := by show _ = _; rw [HR.out, HRA.out]; unfold smP isNd; rw [d7]; simp
          clear HR HRA HNX HON HBN HA2 HA3 HBI y0 y7
          go_wp2
          exact ⟨⟨k + 1, acc, ad, cap, HLT.out, rfl, by first | rw [hwk] | rfl | simp, HA4, HO, HB, HR2⟩, by rw [hwk]; have := HLT.out; simp [intOf]; omega⟩
      · have d0 : decide (0 ≤ y) = false := decide_eq_false y0
        have HR2 : Hid (R = acc ++ smL (l.drop (k + 1)) f) := by show _ = _; rw [HR.out, HRA.out]; unfold smP isNd; rw [d0]; simp
        clear HR HRA HNX HON HBN HA2 HA3 HBI y0
        go_wp2
        exact ⟨⟨k + 1, acc, ad, cap, HLT.out, rfl, by first | rw [hwk] | rfl | simp, HA4, HO, HB, HR2⟩, by rw [hwk]; have := HLT.out; simp [intOf]; omega⟩
    · have hk9 : k = l.length := by omega
      subst hk9
      have hdl : decide ((l.length : Int) < (l.length : Int)) = false := decide_eq_false (by omega)
      have HR2 : Hid (acc = R) := by show _ = _; rw [HR.out, List.drop_length]; simp [smL]
      clear HR HA HBI HC HL
      go_wp2
      go_ret
      rw [← HR2.out]
      exact ⟨_, rfl, HO.out, HB.out⟩
end Go.Proofs.Ytghcijliknahdab
