/- Joined: Few parts. What is joined is a version that may be, its pieces in the parts' order. The walk of the law PartsWhole. -/
import Derived.Test.YtbiapepalkdkdabPtZ
import Derived.Test.YtbiapepalkdkdabPkC
import Derived.Test.YtbiapepalkdkdabJoined07
import Derived.Test.YtbiapepalkdkdabJoined14
import Derived.Test.YtbiapepalkdkdabJoined13
import Derived.Test.YtbiapepalkdkdabJoined04
import Derived.Laws.StructEq
namespace Go.Proofs.Ytbiapepalkdkdab
open Go.RowKit Go.Maps
set_option linter.unusedVariables false
set_option linter.unusedSimpArgs false

/-- parts that may be, at most 101 -/
def FewT (l : List Pt) : Prop := l.length ≤ 101 ∧ ∀ v ∈ l, ptOk v = true
theorem FewT.nil : FewT [] := ⟨by simp, fun v hv => by cases hv⟩
theorem few_tput (l : List Pt) (x : Pt) : FewT (tputL l x) := by
  unfold tputL
  split
  · rename_i h
    unfold tputE at h
    split at h
    · rename_i hh
      have h1 := arePt_len hh.1
      refine ⟨?_, fun v hv => ?_⟩
      · unfold insT
        have h2 := plT_sk l x.n
        simp only [List.length_append, List.length_take, List.length_cons, List.length_drop]
        omega
      · rcases List.mem_append.1 hv with e | e
        · exact arePt_all hh.1 v (List.mem_of_mem_take e)
        · rcases List.mem_cons.1 e with e | e
          · rw [e]; exact hh.2
          · exact arePt_all hh.1 v (List.mem_of_mem_drop e)
    · cases h
  · exact FewT.nil
theorem tm_mem {q : List (Value × Pt)} {l : List Pt} (h : tqL q = l) {y : Value × Pt} (hy : y ∈ q) : y.2 ∈ l := by rw [← h]; exact tq_mem hy
theorem tm_len {q : List (Value × Pt)} {l : List Pt} (h : tqL q = l) : q.length = l.length := by rw [← h, tqL_len]
/-- the law's copy of few parts -/
theorem trefs_few (v : Value) (q : List (Value × Pt)) (l : List Pt) (w : World) (hv : PtI w v q) (he : tqL q = l) (hf : FewT l) : Calls Try.prog 11 #[v] w (fun e w' => (∃ ad n cap q', e = .returned (.slice ad n cap) ∧ Hid (PtI w' (.slice ad n cap) q' ∧ tqL q' = l)) ∧ Below w.heap.size w w') :=
  (trefs_any v q w hv (by rw [tm_len he]; have := hf.1; omega) (fun y hy => by have := (ptOk_b (hf.2 _ (tm_mem he hy))).2.2.1; omega)).mono fun e w' ⟨ad, cap, q', h1, h2, h3, h4⟩ => ⟨⟨ad, _, cap, q', h1, h3.pt, by rw [h2, he]⟩, h4⟩
theorem tsame_few (v1 v2 : Value) (q1 q2 : List (Value × Pt)) (l : List Pt) (w : World) (h1 : PtI w v1 q1) (h2 : PtI w v2 q2) (e1 : tqL q1 = l) (e2 : tqL q2 = l) (hf : FewT l) : Calls Try.prog 15 #[v1, v2] w (fun e w' => e = .returned (.bool true) ∧ Below w.heap.size w w') :=
  rtsame_true v1 v2 q1 q2 w h1 h2 (by rw [e1, e2]) (by rw [tm_len e1]; have := hf.1; omega) (fun y hy => by have := (ptOk_b (hf.2 _ (tm_mem e1 hy))).2.2.1; omega)
theorem ptIs_len (l : List Pt) : (ptIs l).length ≤ 51200 := by
  unfold ptIs
  split
  · rename_i h
    have h1 : ∀ m : List Pt, (∀ x ∈ m, ptOk x = true) → (idsT m).length ≤ 512 * m.length := by
      intro m
      induction m with
      | nil => intro _; simp [idsT]
      | cons x r ih =>
        intro hm
        have a := (ptOk_b (hm x (by simp))).2.2.1
        have b := ih (fun y hy => hm y (List.mem_cons_of_mem _ hy))
        have e : idsT (x :: r) = pcI9 x.ps ++ idsT r := by simp [idsT]
        rw [e, List.length_append, List.length_cons]
        have c : (pcI9 x.ps).length = x.ps.length := by simp [pcI9]
        omega
    have := h1 l (arePt_all h)
    have h2 := arePt_len h
    omega
  · simp
theorem trefs_few2 (v : Value) (q : List (Value × Pt)) (l : List Pt) (w : World) (hv : PtI w v q) (he : tqL q = l) (hf : FewT l) : Calls Try.prog 11 #[v] w (fun e w' => ∃ ad n cap q', e = .returned (.slice ad n cap) ∧ Hid (PtI w' (.slice ad n cap) q' ∧ tqL q' = l) ∧ Hid (Below w.heap.size w w')) :=
  (trefs_few v q l w hv he hf).mono fun e w' ⟨⟨ad, n, cap, q', h1, h2⟩, h3⟩ => ⟨ad, n, cap, q', h1, h2, h3⟩
end Go.Proofs.Ytbiapepalkdkdab
namespace Go.Proofs.Ytbiapepalkdkdab
open Go.RowKit Go.Maps
set_option linter.unusedVariables false
set_option linter.unusedSimpArgs false

theorem eqlPa (X : ByteArray) (a : Int) (W : World) : (binOp .eql 69 (.agg #[.string X, .int .i64 a]) (.agg #[.string X, .int .i64 a])).run Try.prog W = .ok (.bool true) W := by
  have u9 := Try.underlying9
  have u4 := Try.underlying3
  have z9 := Try.sizeOf9
  have z4 := Try.sizeOf3
  have a9 := Try.isAgg9
  have a4 := Try.isAgg3
  have hS : Try.prog.underlying 69 = some (.struct (Try.prog.fieldsOf 69)) := by kernel_rfl
  have hp : Try.prog.stoodInHeld 69 = false := by kernel_rfl
  rw [run_eql_struct, show (10000 : Nat) = 9999 + 1 from rfl, run_equalIn_agg W 9999 69 _ _ hS hp]
  simp only [Program.fieldsOf, Try.underlying69]
  go_simp
theorem neqPa (X : ByteArray) (a : Int) (W : World) : (binOp .neq 69 (.agg #[.string X, .int .i64 a]) (.agg #[.string X, .int .i64 a])).run Try.prog W = .ok (.bool false) W := by
  have h := eqlPa X a W
  rw [run_eql_struct] at h
  rw [run_neq_struct]
  generalize (Op.equalIn 10000 69 (.agg #[.string X, .int .i64 a]) (.agg #[.string X, .int .i64 a])).run Try.prog W = R at *
  cases R with
  | ok r W1 =>
    simp only [Result.andThen_ok] at h ⊢
    injection h with h1 h2
    injection h1 with h1
    rw [h1, h2]
    rfl
  | _ => cases h
theorem tj_ok {l : List Pt} {ks : List Pk} (h : tjE l ks = 0) : arePt l = true ∧ ks.Pairwise (fun a b => a.n < b.n) ∧ pkAll l ks = true ∧ loT (pkL l ks) = false := by
  rcases tj_cases l ks with ⟨e, _⟩ | ⟨⟨h1, _, h3⟩, ⟨e, _⟩ | ⟨h4, ⟨e, _⟩ | ⟨_, ⟨e, _⟩ | ⟨_, e⟩⟩⟩⟩
  · omega
  · omega
  · omega
  · omega
  · exact ⟨h1, riseK_pw h3, h4, e⟩
theorem pcsN_app (a b : List Pc) : pcsN (a ++ b) = pcsN a + pcsN b := by
  induction a with
  | nil => simp [pcsN]
  | cons x r ih => simp only [List.cons_append, pcsN]; rw [ih]; omega
theorem szT_ps : ∀ {l : List Pt}, (∀ x ∈ l, ptOk x = true) → szT l = pcsN (psT l)
  | [], _ => rfl
  | x :: r, h => by
    have h1 := h x (by simp)
    have h2 := szT_ps (l := r) (fun y hy => h y (List.mem_cons_of_mem _ hy))
    have e1 : szT (x :: r) = x.sz + szT r := by simp [szT]
    have e2 : psT (x :: r) = x.ps ++ psT r := by simp [psT]
    rw [e1, e2, pcsN_app, h2]
    simp only [ptOk, pcsOk, Bool.and_eq_true, decide_eq_true_eq, List.all_eq_true] at h1
    obtain ⟨⟨⟨⟨⟨a1, a2⟩, a3⟩, -⟩, -⟩, -⟩ := h1
    have he : pcV x.ps = pcsN x.ps := by
      unfold pcV pcsOk
      rw [if_pos (by simp only [Bool.and_eq_true, decide_eq_true_eq, List.all_eq_true]; exact ⟨a1, a2⟩)]
    rw [a3, he]
theorem dgT_dg (xs : List ByteArray) : isDg (dgT xs) = true := by
  rw [isDg_unh]
  unfold dgT
  have h1 : (hexL (sha (tld 77 xs))).length = 64 := by rw [hexL_len, sha_len]
  have h2 : (⟨(hexL (sha (tld 77 xs))).toArray⟩ : ByteArray).size = 64 := by show (hexL _).toArray.size = _; rw [List.size_toArray, h1]
  rw [h2]
  show (((unh (hexL (sha (tld 77 xs))) []).2 : Int) == 0 && _) = true
  rw [unh_hex]
  rfl
theorem whole_ok {l : List Pt} {ks : List Pk} (h : tjE l ks = 0) (id : Int) : vnE ⟨id, false, szT (pkL l ks), dgT (sumT (pkL l ks)), psT (pkL l ks)⟩ = if 1 ≤ id ∧ id ≤ 1099511627776 then 0 else 1 := by
  obtain ⟨h1, h2, h3, h4⟩ := tj_ok h
  have hok : ∀ x ∈ pkL l ks, ptOk x = true := fun x hx => arePt_all h1 x (pkL_mem hx)
  simp only [loT, Bool.or_eq_false_iff, decide_eq_false_iff_not] at h4
  have hps : ∀ p ∈ psT (pkL l ks), pcOk p = true := fun p hp => by
    obtain ⟨x, hx, hpx⟩ := List.mem_flatMap.1 hp
    have := hok x hx
    simp only [ptOk, pcsOk, Bool.and_eq_true, decide_eq_true_eq, List.all_eq_true] at this
    exact this.1.1.1.1.2 p hpx
  have hobj : vnObj ⟨id, false, szT (pkL l ks), dgT (sumT (pkL l ks)), psT (pkL l ks)⟩ = true := by
    simp only [vnObj, pcsOk, Bool.and_eq_true, decide_eq_true_eq, List.all_eq_true]
    have e := szT_ps hok
    exact ⟨⟨⟨⟨by omega, hps⟩, e⟩, by rw [← e]; omega⟩, dgT_dg _⟩
  unfold vnE vnOk
  simp only [Bool.false_eq_true, if_false, hobj, Bool.and_true, Bool.and_eq_true, decide_eq_true_eq]
/-- those of the first parts that are picked -/
def fiK (ks : List Pk) (l : List Pt) (k : Nat) : List Pt := (l.take k).filter (inK ks)
theorem fiK_in (ks : List Pk) (l : List Pt) (k : Nat) (hk : k < l.length) (h : inK ks l[k] = true) : fiK ks l (k + 1) = fiK ks l k ++ [l[k]] := by
  unfold fiK
  rw [tk_app l k hk, List.filter_append, List.filter_cons_of_pos h]
  rfl
theorem fiK_out (ks : List Pk) (l : List Pt) (k : Nat) (hk : k < l.length) (h : inK ks l[k] = false) : fiK ks l (k + 1) = fiK ks l k := by
  unfold fiK
  rw [tk_app l k hk, List.filter_append, List.filter_cons_of_neg (by rw [h]; simp)]
  simp
theorem fiK_all (ks : List Pk) (l : List Pt) : fiK ks l l.length = l.filter (inK ks) := by unfold fiK; rw [List.take_length]
theorem fiK_len (ks : List Pk) (l : List Pt) (k : Nat) : (fiK ks l k).length ≤ l.length := by
  unfold fiK
  exact Nat.le_trans (List.length_filter_le _ _) (by rw [List.length_take]; omega)
theorem fiK_mem {ks : List Pk} {l : List Pt} {k : Nat} {x : Pt} (h : x ∈ fiK ks l k) : x ∈ l := List.mem_of_mem_take (List.mem_filter.1 h).1
theorem fiK_pre (ks : List Pk) (l : List Pt) (k : Nat) (hk : k < l.length) (h : inK ks l[k] = true) (j : Nat) (hj : j < l[k].ps.length) : (psT (fiK ks l k)).length + j < (psT (l.filter (inK ks))).length ∧ (psT (l.filter (inK ks)))[(psT (fiK ks l k)).length + j]? = some l[k].ps[j] := by
  have e : l.filter (inK ks) = fiK ks l (k + 1) ++ (l.drop (k + 1)).filter (inK ks) := by
    unfold fiK
    rw [← List.filter_append, List.take_append_drop]
  have e2 : psT (l.filter (inK ks)) = psT (fiK ks l k) ++ (l[k].ps ++ psT ((l.drop (k + 1)).filter (inK ks))) := by
    rw [e, fiK_in ks l k hk h, psT_app, psT_app, psT_one, List.append_assoc]
  have h5 : (psT (l.filter (inK ks)))[(psT (fiK ks l k)).length + j]? = some l[k].ps[j] := by
    rw [e2, List.getElem?_append_right (by omega), Nat.add_sub_cancel_left, List.getElem?_append_left hj, List.getElem?_eq_getElem hj]
  exact ⟨(List.getElem?_eq_some_iff.1 h5).1, h5⟩
theorem inK_take (ks : List Pk) (x : Pt) (m : Nat) (hm : m < ks.length) : inK (ks.take (m + 1)) x = (inK (ks.take m) x || decide (ks[m].n = x.n)) := by
  unfold inK
  rw [List.take_succ_eq_append_getElem hm, List.any_append]
  simp
/-- the version in a box, and its pieces ahead of it -/
structure WhS (w : World) (ga : Nat) (cs : List Value) (v : Value) (ps : List Pc) (W : World) : Prop where
  r : RowIs W ga cs 47
  lo : ∃ u : World, u.heap.size = ga ∧ PcI u v ps ∧ Below ga u W
  b : Below w.heap.size w W
  low : w.heap.size ≤ ga
section
variable {w W W' : World} {ga : Nat} {cs : List Value} {v : Value} {ps : List Pc}
theorem WhS.p (h : WhS w ga cs v ps W) : PcI W v ps := by
  obtain ⟨u, hu, hp, hb⟩ := h.lo
  subst hu
  exact hp.next hb
theorem WhS.next (h : WhS w ga cs v ps W) (hb : Below W.heap.size W W') : WhS w ga cs v ps W' := by
  obtain ⟨u, hu, hp, hl⟩ := h.lo
  exact ⟨h.r.keep (hb.keep (fun _ => False)) (fun h => h), ⟨u, hu, hp, hl.trans (hb.mono (Nat.le_of_lt h.r.lt))⟩, below_on h.b hb, h.low⟩
theorem WhS.drewN (h : WhS w ga cs v ps W) (n : Nat) : WhS w ga cs v ps (W.drewN n) := h.next (below_drewN (Below.refl _ _) n)
theorem WhS.put (h : WhS w ga cs v ps W) (i : Nat) (x : Value) : WhS w ga (cs.set i x) v ps (W.setCell ⟨ga, i, none⟩ x) := by
  obtain ⟨u, hu, hp, hl⟩ := h.lo
  have kS := keep_setCell W ga i x
  have h1 := h.low
  have h2 := h.r.lt
  exact ⟨h.r.set i x, ⟨u, hu, hp, hl.trans (keep_below kS (fun k hk e => by omega) (by omega))⟩, h.b.trans (keep_below kS (fun k hk e => by omega) h.b.size), h.low⟩
end
theorem wh_at {W : World} {a1 za : Option Addr} {c1 PN zl zc : Nat} {PS zps : List Pc} (h1 : PcI W (.slice a1 PN c1) PS) (h2 : PcI W (.slice za zl zc) zps) {x m : Nat} (hm : m < zps.length) (t : PS[x]? = some zps[m]) : ∃ (pid : ByteArray) (psz : Int) (bA oA bZ oZ : Nat), a1 = some ⟨bA, oA, none⟩ ∧ za = some ⟨bZ, oZ, none⟩ ∧ W.cell? ⟨bA, oA + x * 2, none⟩ = some (.string pid) ∧ W.cell? ⟨bA, oA + x * 2 + 1, none⟩ = some (.int .i64 psz) ∧ W.cell? ⟨bZ, oZ + m * 2, none⟩ = some (.string pid) ∧ W.cell? ⟨bZ, oZ + m * 2 + 1, none⟩ = some (.int .i64 psz) := by
  obtain ⟨tl, te⟩ := List.getElem?_eq_some_iff.1 t
  obtain ⟨aA, cA, eA, hA⟩ := h1.form
  injection eA with eA1 eA2 eA3
  subst eA1
  obtain ⟨bA, oA, eB, _, k0, k1⟩ := hA x tl
  rw [te] at k0 k1
  obtain ⟨aZ, cZ, eZ, hZ⟩ := h2.form
  injection eZ with eZ1 _ eZ3
  subst eZ1
  obtain ⟨bZ, oZ, eC, _, l0, l1⟩ := hZ m hm
  exact ⟨_, _, bA, oA, bZ, oZ, eB, eC, k0, k1, l0, l1⟩
theorem wh_num {P0 m PN : Nat} (h1 : P0 + m < PN) (h2 : P0 ≤ 51200) (h3 : m ≤ 51200) : ∃ XX : Nat, XX = P0 + m ∧ (XX : Int) < (PN : Int) ∧ (0 : Int) ≤ (XX : Int) ∧ decide ((PN : Int) ≤ (XX : Int)) = false ∧ decide (PN ≤ XX) = false ∧ wrap64 ((XX : Int) + 1) = ((P0 + (m + 1) : Nat) : Int) ∧ wrap64 ((m : Int) + 1) = ((m + 1 : Nat) : Int) := by
  refine ⟨P0 + m, rfl, by omega, by omega, decide_eq_false (by omega), decide_eq_false (by omega), ?_, ?_⟩
  · rw [IntWalk.wrap64_in _ (by omega)]; omega
  · rw [IntWalk.wrap64_in _ (by omega)]; omega
end Go.Proofs.Ytbiapepalkdkdab
namespace Go.Proofs.Ytbiapepalkdkdab
open Go.RowKit Go.Maps
set_option linter.unusedVariables false
set_option linter.unusedSimpArgs false

set_option maxRecDepth 100000 in
set_option maxHeartbeats 8000000 in
theorem partsWhole_walk (v0 : Value) (q : List (Value × Pt)) (u0 : Value) (ks : List Pk) (id : Int) (w : World) (hv : PtI w v0 q) (hz : q.length * 56 ≤ 140737488355328) (hy : ∀ y ∈ q, ibulk.SzTb y.2) (hu : PkI w u0 ks) (hk : ks.length * 24 ≤ 140737488355328) (hky : ∀ y ∈ ks, ibulk.SzKb y) (_hid : (Lit.int .i64 id).wf = true) :
    Calls Try.prog 7 #[v0, u0, .int .i64 id] w fun e w' => e = .returned (.bool true) ∧ Below w.heap.size w w' := by
  obtain ⟨av, cv, rfl, hc⟩ := hv.form
  obtain ⟨au, cu, rfl, hcu⟩ := hu.form
  have HC := hid hc
  have HCU := hid hcu
  have JN := hid (join_any _ q _ ks w hv hu (by omega) (by omega))
  have HLK : Hid (ks.length ≤ 8796093022208) := by show _ ≤ _; omega
  have AW := hid (fun W => awake14 W)
  have HWV : Hid (tjW (tqL q) ks = if tjE (tqL q) ks = 0 then ⟨0, false, szT (pkL (tqL q) ks), dgT (sumT (pkL (tqL q) ks)), psT (pkL (tqL q) ks)⟩ else vnz) := rfl
  have HOK : Hid (tjE (tqL q) ks = 0 → arePt (tqL q) = true ∧ q.length ≤ 100 ∧ pkL (tqL q) ks = fiK ks (tqL q) q.length ∧ (∀ k, 0 ≤ szT (fiK ks (tqL q) k) ∧ szT (fiK ks (tqL q) k) ≤ 209715200 ∧ (psT (fiK ks (tqL q) k)).length ≤ 51200) ∧ ∀ (k : Nat) (hk : k < q.length), (inK ks q[k].2 = false → fiK ks (tqL q) (k + 1) = fiK ks (tqL q) k) ∧ (inK ks q[k].2 = true → szT (fiK ks (tqL q) (k + 1)) = szT (fiK ks (tqL q) k) + q[k].2.sz ∧ (psT (fiK ks (tqL q) (k + 1))).length = (psT (fiK ks (tqL q) k)).length + q[k].2.ps.length ∧ ∀ (j : Nat) (hj : j < q[k].2.ps.length), (psT (fiK ks (tqL q) k)).length + j < (psT (pkL (tqL q) ks)).length ∧ (psT (pkL (tqL q) ks))[(psT (fiK ks (tqL q) k)).length + j]? = some q[k].2.ps[j])) := fun h => by
    obtain ⟨h1, h2, h3, h4⟩ := tj_ok h
    have hl := arePt_len h1
    have he : pkL (tqL q) ks = (tqL q).filter (inK ks) := pkL_filter h1 h2 h3
    refine ⟨h1, by rw [tqL_len] at hl; exact hl, by rw [he, ← fiK_all, tqL_len], fun k => ?_, fun k hk => ?_⟩
    · have ho : ∀ x ∈ fiK ks (tqL q) k, ptOk x = true := fun x hx => arePt_all h1 x (fiK_mem hx)
      have a1 := szT_bd ho
      have a2 := psT_bd ho
      have a3 := fiK_len ks (tqL q) k
      exact ⟨a1.1, by omega, by omega⟩
    · have hk' : k < (tqL q).length := by rw [tqL_len]; exact hk
      have eg := tqL_get q k hk
      refine ⟨fun hi => fiK_out ks (tqL q) k hk' (by rw [eg]; exact hi), fun hi => ?_⟩
      have hi' : inK ks (tqL q)[k] = true := by rw [eg]; exact hi
      have e1 := fiK_in ks (tqL q) k hk' hi'
      rw [e1, szT_app, psT_app, szT_one, psT_one, List.length_append, eg]
      refine ⟨rfl, rfl, fun j hj => ?_⟩
      have := fiK_pre ks (tqL q) k hk' hi' j (by rw [eg]; exact hj)
      rw [← he] at this
      obtain ⟨t1, t2⟩ := this
      refine ⟨t1, ?_⟩
      rw [t2]
      simp only [eg]
  have VC : Hid (tjE (tqL q) ks = 0 → ∀ v W, PcI W v (psT (pkL (tqL q) ks)) → Calls Try.prog 28 #[.agg #[.int .i64 id, .bool false, .int .i64 (szT (pkL (tqL q) ks)), .string (dgT (sumT (pkL (tqL q) ks))), v]] W fun e w' => e = .returned (.int .i64 (if 1 ≤ id ∧ id ≤ 1099511627776 then 0 else 1)) ∧ Below W.heap.size W w') := fun h v W hp => by
    have := vcheck_any v ⟨id, false, szT (pkL (tqL q) ks), dgT (sumT (pkL (tqL q) ks)), psT (pkL (tqL q) ks)⟩ W hp
    rw [whole_ok h id] at this
    exact this
  have HIT : Hid (∀ (x : Pt) (m : Nat) (hm : m < ks.length), inK (ks.take (m + 1)) x = (inK (ks.take m) x || decide (ks[m].n = x.n))) := fun x m hm => inK_take ks x m hm
  have HI0 : Hid (∀ x : Pt, inK (ks.take 0) x = false ∧ inK (ks.take ks.length) x = inK ks x) := fun x => ⟨rfl, by rw [List.take_length]⟩
  have HF0 : Hid (fiK ks (tqL q) 0 = [] ∧ szT [] = 0 ∧ (psT []).length = 0) := ⟨by simp [fiK], rfl, rfl⟩
  have NEQ := hid neqPa
  clear hc hcu hv hu hz hy hk hky _hid
  unfold GiveJ at JN
  unfold vnV at JN
  by_cases hJ : tjE (tqL q) ks = 0
  case neg =>
    have hA := HWV.out
    rw [if_neg hJ] at hA
    rw [hA] at JN
    have hJ2 : (tjE (tqL q) ks != 0) = true := bne_iff_ne.2 hJ
    clear HWV HOK VC HIT HI0 HF0 NEQ HC HCU HLK hA hJ
    generalize tjE (tqL q) ks = JE at *
    unfold vnz at JN
    simp only [List.length_nil] at JN
    go_enter Try.func7, Try.ntmps7
    go_wp2_with fail
    refine JN.out.mono ?_
    rintro e w1 ⟨a1, c1, rfl, p1, b1⟩
    have BX := hid (Bx.made b1 [.int .i64 0, .bool false, .int .i64 0, .string ⟨#[]⟩, .slice a1 0 c1] 47)
    clear JN p1 b1
    go_wp2_with fail
    refine (AW.out _).mono ?_
    rintro e w2 ⟨rfl, b2⟩
    have B2 := hid (BX.out.next b2)
    have y2 := B2.out.row.cellAt (o := 2) rfl
    have y4 := B2.out.row.cellAt (o := 4) rfl
    clear BX b2 AW
    go_wp2
    go_ret
    exact ⟨rfl, B2.out.b⟩
  have hA := HWV.out
  rw [if_pos hJ] at hA
  rw [hA, hJ] at JN
  obtain ⟨hare, hl100, hPLf, hbd, hst⟩ := HOK.out hJ
  have VC2 := hid (VC.out hJ)
  have H100 := hid hl100
  have HPF := hid hPLf
  have HBD := hid hbd
  have HST := hid hst
  clear HWV HOK VC hA hJ hare hl100 hPLf hbd hst
  generalize pkL (tqL q) ks = PL at *
  simp only at JN
  have HSZ : Hid (szT PL = szT (fiK ks (tqL q) q.length) ∧ (psT PL).length = (psT (fiK ks (tqL q) q.length)).length) := by refine ⟨?_, ?_⟩ <;> rw [HPF.out]
  clear HPF
  generalize szT PL = SZ at *
  generalize dgT (sumT PL) = DG at *
  generalize psT PL = PS at *
  generalize hPN : PS.length = PN at *
  go_enter Try.func7, Try.ntmps7
  go_wp2_with fail
  refine JN.out.mono ?_
  rintro e w1 ⟨a1, c1, rfl, p1, b1⟩
  have WH : Hid (WhS w w1.heap.size [.int .i64 0, .bool false, .int .i64 SZ, .string DG, .slice a1 PN c1] (.slice a1 PN c1) PS (w1.alloc (.cells #[.int .i64 0, .bool false, .int .i64 SZ, .string DG, .slice a1 PN c1] 47))) := ⟨srow w1 _ _, ⟨w1, rfl, p1, (Below.refl _ _).alloc (Nat.le_refl _) _⟩, below_al b1 _, b1.size⟩
  clear JN p1 b1
  go_wp2
  generalize w1.heap.size = ga at *
  go_loopw [9, 10, 11] (fun a c i wr => ∃ (k : Nat), k ≤ q.length ∧ a = .int .i64 (szT (fiK ks (tqL q) k)) ∧ c = .int .i64 ((psT (fiK ks (tqL q) k)).length : Int) ∧ i = .int .i64 (k : Int) ∧ Hid (WhS w ga [.int .i64 0, .bool false, .int .i64 SZ, .string DG, .slice a1 PN c1] (.slice a1 PN c1) PS wr)) (fun _ _ i _ => q.length - (intOf i).toNat)
  case atStart => exact ⟨0, Nat.zero_le _, by rw [HF0.out.1, HF0.out.2.1], by rw [HF0.out.1, HF0.out.2.2]; rfl, rfl, WH⟩
  case round =>
    clear WH
    obtain ⟨k, hk, rfl, rfl, rfl, WH⟩ := hrel
    by_cases hlt : k < q.length
    · have hk1 : (k : Int) < (q.length : Int) := by omega
      have hk0 : (0 : Int) ≤ (k : Int) := by omega
      have hwk : wrap64 ((k : Int) + 1) = ((k + 1 : Nat) : Int) := by have := H100.out; rw [IntWalk.wrap64_in _ (by omega)]; omega
      obtain ⟨b, off, e1, hb, c0, c1', c2, c3, hp⟩ := HC.out k hlt
      subst e1
      have HCE : Hid (∀ W, Below w.heap.size w W → W.cell? ⟨b, off + k * 4, none⟩ = some (.int .i64 q[k].2.n) ∧ W.cell? ⟨b, off + k * 4 + 1, none⟩ = some (.int .i64 q[k].2.sz) ∧ W.cell? ⟨b, off + k * 4 + 3, none⟩ = some q[k].1) := fun W hW => ⟨(hW.cell hb).trans c0, (hW.cell hb).trans c1', (hW.cell hb).trans c3⟩
      obtain ⟨hst1, hst2⟩ := HST.out k hlt
      have HS1 := hid hst1
      have HS2 := hid hst2
      have HB1 := hid (HBD.out (k + 1))
      have HB0 := hid (HBD.out k)
      have HLT := hid hlt
      have HIT2 := hid (HIT.out q[k].2)
      have HI02 := hid (HI0.out q[k].2)
      have HPP : Hid (∀ W, Below w.heap.size w W → PcI W q[k].1 q[k].2.ps) := fun W hW => hp.next hW
      have hpf := hp.sl
      clear HC HST HBD HIT HI0 H100 VC2 HSZ HF0 AW c0 c1' c2 c3 hp hb hst1 hst2
      generalize hS0 : szT (fiK ks (tqL q) k) = S0 at *
      generalize hS1 : szT (fiK ks (tqL q) (k + 1)) = S1 at *
      generalize hP0 : (psT (fiK ks (tqL q) k)).length = P0 at *
      generalize hP1 : (psT (fiK ks (tqL q) (k + 1))).length = P1 at *
      have HSS := hid hS0
      have HSS1 := hid hS1
      have HPP0 := hid hP0
      have HPP1 := hid hP1
      clear hS0 hS1 hP0 hP1
      generalize q[k] = z at *
      clear hk hlt
      obtain ⟨zv, zn, zsz, zsum, zps⟩ := z
      simp only at *
      obtain ⟨za, zc, rfl⟩ := hpf
      go_wp2
      go_loopw [12, 13] (fun B j wr => ∃ (m : Nat), m ≤ ks.length ∧ B = .bool (inK (ks.take m) ⟨zn, zsz, zsum, zps⟩) ∧ j = .int .i64 (m : Int) ∧ Hid (WhS w ga [.int .i64 0, .bool false, .int .i64 SZ, .string DG, .slice a1 PN c1] (.slice a1 PN c1) PS wr)) (fun _ j _ => ks.length - (intOf j).toNat)
      case atStart => exact ⟨0, Nat.zero_le _, by rw [HI02.out.1], rfl, WH⟩
      case round =>
        clear WH
        obtain ⟨m, hm, rfl, rfl, WH⟩ := hrel
        by_cases hml : m < ks.length
        · have hm1 : (m : Int) < (ks.length : Int) := by omega
          have hm0 : (0 : Int) ≤ (m : Int) := by omega
          have hwm : wrap64 ((m : Int) + 1) = ((m + 1 : Nat) : Int) := by have := HLK.out; rw [IntWalk.wrap64_in _ (by omega)]; omega
          obtain ⟨b2, off2, e2, hb2, g0, g1⟩ := HCU.out m hml
          subst e2
          have d0 := (HCE.out _ WH.out.b).1
          have u0 := (WH.out.b.cell (p := ⟨b2, off2 + m * 2, none⟩) hb2).trans g0
          have HML := hid hml
          have HT3 := hid (HIT2.out m hml)
          clear HCU HLK HS1 HS2 HIT2 HI02 HCE HPP HB0 HB1 HSS HSS1 HPP0 HPP1 NEQ g0 g1 hb2
          generalize ks[m].n = kn at *
          generalize hBN : inK (ks.take (m + 1)) ⟨zn, zsz, zsum, zps⟩ = BN at *
          have HBN := hid hBN
          clear hBN
          generalize inK (ks.take m) ⟨zn, zsz, zsum, zps⟩ = BO at *
          clear hm hml
          cases BO
          · by_cases hn : kn = zn
            · subst hn
              have gb : (kn == kn) = true := beq_self_eq_true _
              have hbn : BN = true := by rw [HT3.out]; simp
              subst hbn
              clear HT3
              go_wp2
              go_quiet (fail)
              have W2 := hid (WH.out.drewN nq)
              clear WH d0 u0
              go_wp2
              exact ⟨⟨m + 1, HML.out, by rw [HBN.out], by first | rw [hwm] | rfl | simp, W2⟩, by (try rw [hwm]); have := HML.out; simp [intOf]; omega⟩
            · have gb : (kn == zn) = false := beq_eq_false_iff_ne.2 hn
              have hbn : BN = false := by rw [HT3.out, decide_eq_false hn]; rfl
              subst hbn
              clear HT3 hn
              go_wp2
              go_quiet (fail)
              have W2 := hid (WH.out.drewN nq)
              clear WH d0 u0
              go_wp2
              exact ⟨⟨m + 1, HML.out, by rw [HBN.out], by first | rw [hwm] | rfl | simp, W2⟩, by (try rw [hwm]); have := HML.out; simp [intOf]; omega⟩
          · have hbn : BN = true := by rw [HT3.out]; rfl
            subst hbn
            clear HT3
            go_wp2
            go_quiet (fail)
            have W2 := hid (WH.out.drewN nq)
            clear WH d0 u0
            go_wp2
            exact ⟨⟨m + 1, HML.out, by rw [HBN.out], by first | rw [hwm] | rfl | simp, W2⟩, by (try rw [hwm]); have := HML.out; simp [intOf]; omega⟩
        · have hme : m = ks.length := by omega
          have hd1 : decide ((m : Int) < (ks.length : Int)) = false := decide_eq_false (by omega)
          have hd2 : decide (m < ks.length) = false := decide_eq_false hml
          have hin : inK (ks.take m) ⟨zn, zsz, zsum, zps⟩ = inK ks ⟨zn, zsz, zsum, zps⟩ := by rw [hme]; exact HI02.out.2
          rw [hin]
          clear HCU HLK HIT2 HI02 hme hml hm hin
          generalize inK ks ⟨zn, zsz, zsum, zps⟩ = IN at *
          cases IN
          · have hfo := HS1.out (by first | rfl | trivial)
            have HFO : Hid (S1 = S0 ∧ P1 = P0) := by
              rw [← HSS1.out, ← HSS.out, ← HPP1.out, ← HPP0.out, hfo]
              exact ⟨rfl, rfl⟩
            obtain ⟨rfl, rfl⟩ := HFO.out
            clear HS1 HS2 HFO hfo HCE HPP NEQ HB0 HB1
            go_wp2
            exact ⟨⟨k + 1, HLT.out, by rw [HSS1.out], by rw [HPP1.out], by first | rw [hwk] | rfl | simp, WH⟩, by (try rw [hwk]); have := HLT.out; simp [intOf]; omega⟩
          · obtain ⟨hf1, hf2, hf3⟩ := HS2.out (by first | rfl | trivial)
            have hws : wrap64 (S0 + zsz) = S1 := by have := HB1.out; rw [← hf1, IntWalk.wrap64_in _ (by omega)]
            have HF2 := hid hf2
            have HF3 := hid hf3
            have d1 := (HCE.out _ WH.out.b).2.1
            clear HS1 HS2 hf1 hf2 hf3
            go_wp2
            clear d1
            go_loopw [10, 14] (fun c j wr => ∃ (m : Nat), m ≤ zps.length ∧ c = .int .i64 ((P0 + m : Nat) : Int) ∧ j = .int .i64 (m : Int) ∧ Hid (WhS w ga [.int .i64 0, .bool false, .int .i64 SZ, .string DG, .slice a1 PN c1] (.slice a1 PN c1) PS wr)) (fun _ j _ => zps.length - (intOf j).toNat)
            case atStart => exact ⟨0, Nat.zero_le _, rfl, rfl, WH⟩
            case round =>
              clear WH
              obtain ⟨m, hm, rfl, rfl, WH⟩ := hrel
              have d3 := (HCE.out _ WH.out.b).2.2
              by_cases hml : m < zps.length
              · have hm1 : (m : Int) < (zps.length : Int) := by omega
                have hm0 : (0 : Int) ≤ (m : Int) := by omega
                have HM9 : Hid (m ≤ 51200 ∧ P0 ≤ 51200) := ⟨by have h1 := HB1.out.2.2; have h2 := HF2.out; omega, HB0.out.2.2⟩
                have HT := hid (HF3.out m hml)
                have HML := hid hml
                have HAT := hid (wh_at WH.out.p (HPP.out _ WH.out.b) hml HT.out.2)
                have HNU := hid (wh_num HT.out.1 HM9.out.2 HM9.out.1)
                clear HF3 HPP HCE HB0 HB1 HM9 HT hm hml HF2 HSS HSS1 HPP0 HPP1 hws
                obtain ⟨pid, psz, bA, oA, bZ, oZ, eB, eC, k0', k1', l0, l1⟩ := HAT.out
                obtain ⟨XX, hXX, hx1, hx0, gx1, gx2, hwc, hwm⟩ := HNU.out
                rw [← hXX] at k0' k1' ⊢
                subst eB eC
                have k0 := k0'
                have k1 := k1'
                have y4 := WH.out.r.cellAt (o := 4) rfl
                have nq1 := NEQ.out pid psz
                clear hXX HAT HNU NEQ k0' k1'
                generalize zps.length = zl at *
                go_wp2
                go_quiet (fail)
                have W2 := hid (WH.out.drewN nq)
                clear WH d3 k0 k1 l0 l1 y4 nq1
                go_wp2
                exact ⟨⟨m + 1, HML.out, by first | rw [hwc] | rfl | simp, by first | rw [hwm] | rfl | simp, W2⟩, by (try rw [hwm]); have := HML.out; simp [intOf]; omega⟩
              · have hme : m = zps.length := by omega
                have hd3 : decide ((m : Int) < (zps.length : Int)) = false := decide_eq_false (by omega)
                have hd4 : decide (m < zps.length) = false := decide_eq_false hml
                have hPM : P0 + m = P1 := by have := HF2.out; omega
                rw [hPM]
                clear HF2 HF3 HPP HB0 HB1 HCE hme hml hm hPM NEQ
                go_wp2
                exact ⟨⟨k + 1, HLT.out, by first | rw [hws, HSS1.out] | rw [HSS1.out], by rw [HPP1.out], by first | rw [hwk] | rfl | simp, WH⟩, by (try rw [hwk]); have := HLT.out; simp [intOf]; omega⟩
    · have hke : k = q.length := by omega
      have hd1 : decide ((k : Int) < (q.length : Int)) = false := decide_eq_false (by omega)
      have hd2 : decide (k < q.length) = false := decide_eq_false hlt
      subst hke
      obtain ⟨hz1, hz2⟩ := HSZ.out
      rw [← hz1, ← hz2]
      have r0 := WH.out.r.cellAt (o := 0) rfl
      have f0 := WH.out.r.frozen (o := 0)
      have WP : Hid (WhS w ga [.int .i64 id, .bool false, .int .i64 SZ, .string DG, .slice a1 PN c1] (.slice a1 PN c1) PS (wr.setCell ⟨ga, 0, none⟩ (.int .i64 id))) := WH.out.put 0 _
      have eS : (SZ == SZ) = true := beq_self_eq_true _
      have eP : ((PN : Int) == (PN : Int)) = true := beq_self_eq_true _
      clear WH HC HCU HLK HST HBD HIT HI0 HF0 H100 HSZ hz1 hz2 hlt hk NEQ
      by_cases h1 : 1 ≤ id
      · have g1 : decide (1 ≤ id) = true := decide_eq_true h1
        by_cases h2 : id ≤ 1099511627776
        · have g2 : decide (id ≤ 1099511627776) = true := decide_eq_true h2
          have hE : (if 1 ≤ id ∧ id ≤ 1099511627776 then (0 : Int) else 1) = 0 := if_pos ⟨h1, h2⟩
          rw [hE] at VC2
          have VC3 := VC2
          clear VC2 hE h1 h2
          go_wp2_with fail
          refine (AW.out _).mono ?_
          rintro e w2 ⟨rfl, b2⟩
          have W2 := hid (WP.out.next b2)
          have C2 := hid (VC3.out _ _ W2.out.p)
          have y0 := W2.out.r.cellAt (o := 0) rfl
          have y1 := W2.out.r.cellAt (o := 1) rfl
          have y2 := W2.out.r.cellAt (o := 2) rfl
          have y3 := W2.out.r.cellAt (o := 3) rfl
          have y4 := W2.out.r.cellAt (o := 4) rfl
          clear WP b2 VC3 AW r0 f0
          go_wp2_with fail
          refine C2.out.mono ?_
          rintro e w3 ⟨rfl, b3⟩
          have B3 := hid (below_on W2.out.b b3)
          clear C2 b3 W2 y0 y1 y2 y3 y4
          go_wp2
          go_ret
          exact ⟨rfl, B3.out⟩
        · have g2 : decide (id ≤ 1099511627776) = false := decide_eq_false h2
          have hE : (if 1 ≤ id ∧ id ≤ 1099511627776 then (0 : Int) else 1) = 1 := if_neg (fun h => h2 h.2)
          rw [hE] at VC2
          have VC3 := VC2
          clear VC2 hE h1 h2
          go_wp2_with fail
          refine (AW.out _).mono ?_
          rintro e w2 ⟨rfl, b2⟩
          have W2 := hid (WP.out.next b2)
          have C2 := hid (VC3.out _ _ W2.out.p)
          have y0 := W2.out.r.cellAt (o := 0) rfl
          have y1 := W2.out.r.cellAt (o := 1) rfl
          have y2 := W2.out.r.cellAt (o := 2) rfl
          have y3 := W2.out.r.cellAt (o := 3) rfl
          have y4 := W2.out.r.cellAt (o := 4) rfl
          clear WP b2 VC3 AW r0 f0
          go_wp2_with fail
          refine C2.out.mono ?_
          rintro e w3 ⟨rfl, b3⟩
          have B3 := hid (below_on W2.out.b b3)
          clear C2 b3 W2 y0 y1 y2 y3 y4
          go_wp2
          go_ret
          exact ⟨rfl, B3.out⟩
      · have g1 : decide (1 ≤ id) = false := decide_eq_false h1
        have hE : (if 1 ≤ id ∧ id ≤ 1099511627776 then (0 : Int) else 1) = 1 := if_neg (fun h => h1 h.1)
        rw [hE] at VC2
        have VC3 := VC2
        clear VC2 hE h1
        go_wp2_with fail
        refine (AW.out _).mono ?_
        rintro e w2 ⟨rfl, b2⟩
        have W2 := hid (WP.out.next b2)
        have C2 := hid (VC3.out _ _ W2.out.p)
        have y0 := W2.out.r.cellAt (o := 0) rfl
        have y1 := W2.out.r.cellAt (o := 1) rfl
        have y2 := W2.out.r.cellAt (o := 2) rfl
        have y3 := W2.out.r.cellAt (o := 3) rfl
        have y4 := W2.out.r.cellAt (o := 4) rfl
        clear WP b2 VC3 AW r0 f0
        go_wp2_with fail
        refine C2.out.mono ?_
        rintro e w3 ⟨rfl, b3⟩
        have B3 := hid (below_on W2.out.b b3)
        clear C2 b3 W2 y0 y1 y2 y3 y4
        go_wp2
        go_ret
        exact ⟨rfl, B3.out⟩
end Go.Proofs.Ytbiapepalkdkdab
