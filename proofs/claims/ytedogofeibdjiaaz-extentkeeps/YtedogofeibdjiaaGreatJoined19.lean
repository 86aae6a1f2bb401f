/- Joined: ExtentKeeps, pure: what Put and Keep make of a store's disk. ExtentKeeps: a store's memory; what each call makes of it. The law's own small run: it answers true. -/
import Derived.Test.YtedogofeibdjiaaGreatJoined18
import Derived.Test.YtedogofeibdjiaaGreatJoined10
namespace Go.Proofs.YtedogofeibdjiaaGreat
open Go.RowKit Go.Maps
set_option linter.unusedVariables false
set_option linter.unusedSimpArgs false

/-- a store's files: each an extent's, and right -/
structure EInv (A : List (Bs × Bs)) : Prop where
  s : Srt A
  e : ∀ y ∈ A, ∃ b : Bs, b ≠ [] ∧ b.length ≤ 4096 ∧ y = (enm (idB b), filB b)
theorem EInv.nil : EInv [] := ⟨srt_nil, by simp⟩
theorem EInv.n {A : List (Bs × Bs)} (h : EInv A) : ∀ x ∈ A, nameOk x.1 = true := fun x hx => by
  obtain ⟨b, _, _, rfl⟩ := h.e x hx
  exact nameOk_enm b
theorem filB_max (s : Bs) (h : s.length ≤ 5000) : (filB s).length ≤ 2600000 := by
  unfold filB
  have h1 := fpre_len s (nch 512 s)
  have h2 := nch_le (n := 512) (s := s) (by omega)
  omega
theorem EInv.z {A : List (Bs × Bs)} (h : EInv A) : ∀ x ∈ A, x.2.length ≤ 2600000 := fun x hx => by
  obtain ⟨b, _, hb, rfl⟩ := h.e x hx
  exact filB_max b (by omega)
theorem EInv.flt {A : List (Bs × Bs)} (h : EInv A) (f : Bs × Bs → Bool) : EInv (A.filter f) := ⟨List.Pairwise.filter _ h.s, fun y hy => h.e y (List.mem_filter.1 hy).1⟩
theorem tot_leN {N : Nat} : ∀ (A : List (Bs × Bs)), (∀ y ∈ A, y.2.length ≤ N) → tot A ≤ A.length * N
  | [], _ => by simp [tot]
  | y :: r, h => by
    have h1 := h y (by simp)
    have h2 := tot_leN r (fun z hz => h z (by simp [hz]))
    simp only [tot, List.map_cons, List.sum_cons, List.length_cons, Nat.add_mul] at h2 ⊢
    omega
theorem EInv.tt {A : List (Bs × Bs)} (h : EInv A) (hl : A.length ≤ 12) : tot A ≤ 31200000 := by
  have := tot_leN A h.z
  have h2 : A.length * 2600000 ≤ 12 * 2600000 := Nat.mul_le_mul_right _ hl
  omega
theorem wr_dR (A : List (Bs × Bs)) (n : Nat) (F : Bs) : wrD (dR A [] n) enew F = (⟨A, [⟨1, enew, [], F, 0⟩], n + 1, [], false, 0, false⟩, 0) := by
  simp [wrD, dR, nameOk_new, fitB, chgD, Ds.more]
theorem sy1_dR (A : List (Bs × Bs)) (n : Nat) (F : Bs) : synR ⟨A, [⟨1, enew, [], F, 0⟩], n, [], false, 0, false⟩ = (dR (kput A enew F) [] n, 0) := by
  simp [synR, synD, Ds.now, replay, doC, dR]
theorem mv_dR (A : List (Bs × Bs)) (n : Nat) (E F : Bs) (hE : nameOk E = true) (hne : E ≠ enew) : mvD (dR (kput A enew F) [] n) enew E = (⟨kput A enew F, [⟨2, enew, E, [], 0⟩], n + 1, [], false, 0, false⟩, 0) := by
  have hne2 : ¬ enew = E := fun h => hne h.symm
  have hk : kget (kput A enew F) enew = some F := kget_put_same _ _ _
  simp [mvD, dR, nameOk_new, hE, Ds.now, replay, hk, hne2, chgD, Ds.more]
/-- the files behind it -/
def layA (A : List (Bs × Bs)) (E F : Bs) : List (Bs × Bs) := kdel (kput (kput A enew F) E F) enew
theorem sy2_dR (A : List (Bs × Bs)) (n : Nat) (E F : Bs) : synR ⟨kput A enew F, [⟨2, enew, E, [], 0⟩], n, [], false, 0, false⟩ = (dR (layA A E F) [] n, 0) := by
  have hk : kget (kput A enew F) enew = some F := kget_put_same _ _ _
  simp [synR, synD, Ds.now, replay, doC, dR, layA, hk]
theorem lay_dR (A : List (Bs × Bs)) (n : Nat) (E F : Bs) (hE : nameOk E = true) (hne : E ≠ enew) : layD (dR A [] n) enew E F = (dR (layA A E F) [] (n + 2), 0) := by
  unfold layD
  rw [wr_dR]
  simp only
  rw [if_neg (by simp), sy1_dR]
  simp only
  rw [if_neg (by simp), mv_dR A (n + 1) E F hE hne]
  simp only
  rw [if_neg (by simp), sy2_dR]
theorem EInv.lay {A : List (Bs × Bs)} (h : EInv A) {s : Bs} (h0 : s ≠ []) (hl : s.length ≤ 4096) : EInv (layA A (enm (idB s)) (filB s)) ∧ (layA A (enm (idB s)) (filB s)).length ≤ A.length + 1 := by
  refine ⟨⟨srt_kdel (srt_kput (srt_kput h.s _ _) _ _) _, fun y hy => ?_⟩, ?_⟩
  · obtain ⟨h1, h2⟩ := mem_kdel.1 hy
    rcases mem_kput.1 h1 with rfl | ⟨h1, _⟩
    · exact ⟨s, h0, hl, rfl⟩
    · rcases mem_kput.1 h1 with rfl | ⟨h1, _⟩
      · exact absurd rfl h2
      · exact h.e y h1
  · unfold layA
    have hne := enm_new s
    have e : kdel (kput (kput A enew (filB s)) (enm (idB s)) (filB s)) enew = kput A (enm (idB s)) (filB s) ∨ True := .inr trivial
    have h1 := len_kput (kput A enew (filB s)) (enm (idB s)) (filB s)
    have h2 := len_kput A enew (filB s)
    -- one of them is taken away
    have hm : (enew, filB s) ∈ kput (kput A enew (filB s)) (enm (idB s)) (filB s) := mem_kput.2 (.inr ⟨mem_kput.2 (.inl rfl), fun e => hne e.symm⟩)
    have h3 : (kdel (kput (kput A enew (filB s)) (enm (idB s)) (filB s)) enew).length < (kput (kput A enew (filB s)) (enm (idB s)) (filB s)).length := by
      unfold kdel
      exact List.length_filter_lt_length_iff_exists.2 ⟨_, hm, by simp⟩
    omega
theorem EInv.lyok {A : List (Bs × Bs)} (h : EInv A) (hl : A.length ≤ 12) {n : Nat} (hn : n ≤ 1000) (s : Bs) (hs : s.length ≤ 5000) : LyOk (dR A [] n) enew (enm (idB s)) (filB s) := by
  have hE := nameOk_enm s
  have hne := enm_new s
  have hF := filB_max s hs
  have h5 : enew.length = 5 := rfl
  have h66 : (enm (idB s)).length = 66 := by simp [enm, idB_len]
  have ht := h.tt hl
  have t1 := tot_kput h.s enew (filB s)
  have l1 := len_kput A enew (filB s)
  have e0 : (dR A [] n).wt = tot A ∧ (dR A [] n).S.length = A.length ∧ (dR A [] n).ws.length = 0 ∧ (dR A [] n).n = n := ⟨wt_dR _ _ _, rfl, rfl, rfl⟩
  have e1 : (dR (kput A enew (filB s)) [] (n + 1)).wt = tot (kput A enew (filB s)) ∧ (dR (kput A enew (filB s)) [] (n + 1)).S.length = (kput A enew (filB s)).length ∧ (dR (kput A enew (filB s)) [] (n + 1)).ws.length = 0 ∧ (dR (kput A enew (filB s)) [] (n + 1)).n = n + 1 := ⟨wt_dR _ _ _, rfl, rfl, rfl⟩
  refine ⟨by omega, by omega, ?_, ?_, ?_, ?_⟩
  · rw [wr_dR]; simp [Ds.wt]; omega
  · rw [wr_dR]; simp only; rw [sy1_dR]; simp only; omega
  · rw [wr_dR]; simp only; rw [sy1_dR]; simp only; omega
  · rw [wr_dR]; simp only; rw [sy1_dR]; simp only; rw [mv_dR A (n + 1) _ _ hE hne]; simp [Ds.wt]; omega
theorem rd_bd {A : List (Bs × Bs)} {N : Nat} (h : ∀ x ∈ A, x.2.length ≤ N) (n : Nat) (rs : List Bs) (m : Bs) : (rdD (dR A rs n) m).1.length ≤ N := by
  unfold rdD
  split
  · simp
  · split
    · simp
    · rw [dR_now, kget_lft]
      split
      · simp
      · rename_i u hu
        split at hu
        · cases hu
        · exact h _ (kget_mem hu)
/-- what a putting leaves -/
theorem put_dR {A : List (Bs × Bs)} (h : EInv A) (n : Nat) (s : Bs) : ∃ A' n', (putD (dR A [] n) s).1 = dR A' [] n' ∧ EInv A' ∧ A'.length ≤ A.length + 1 ∧ n' ≤ n + 2 := by
  unfold putD
  split
  · exact ⟨A, n, rfl, h, by omega, by omega⟩
  · rename_i h0
    split
    · exact ⟨A, n, rfl, h, by omega, by omega⟩
    · rename_i h1
      split
      · exact ⟨A, n, rfl, h, by omega, by omega⟩
      · rw [lay_dR A n _ _ (nameOk_enm s) (enm_new s), if_neg (by simp)]
        obtain ⟨i1, i2⟩ := h.lay h0 (by omega)
        exact ⟨_, _, rfl, i1, i2, by omega⟩
theorem dropT_dR (A : List (Bs × Bs)) (ks : List Bs) : ∀ (ids rs : List Bs) (n c : Nat), ids.Nodup → (∀ i ∈ ids, rs.contains (enm i) = false ∧ (kget A (enm i)).isSome = true ∧ nameOk (enm i) = true) →
    ids.foldl (dropT ks) (dR A rs n, c, 0) = (dR A (rs ++ (ids.filter fun i => !decide (i ∈ ks)).map enm) (n + (ids.filter fun i => !decide (i ∈ ks)).length), c + (ids.filter fun i => !decide (i ∈ ks)).length, 0)
  | [], rs, n, c, _, _ => by simp
  | i :: r, rs, n, c, hd, h => by
    obtain ⟨h1, h2, h3⟩ := h i (by simp)
    have hd' := List.nodup_cons.1 hd
    rw [List.foldl_cons]
    by_cases hw : i ∈ ks
    · have e0 : dropT ks (dR A rs n, c, 0) i = (dR A rs n, c, 0) := by unfold dropT; simp [hw]
      rw [e0, List.filter_cons_of_neg (by simp [hw])]
      exact dropT_dR A ks r rs n c hd'.2 (fun j hj => h j (by simp [hj]))
    · have e0 : dropT ks (dR A rs n, c, 0) i = (dR A (rs ++ [enm i]) (n + 1), c + 1, 0) := by
        unfold dropT
        simp only
        rw [if_neg (by simp), if_neg hw, rm_dR A rs n (enm i) h1 h2 h3, if_neg (by simp)]
      rw [e0, List.filter_cons_of_pos (by simp [hw])]
      have := dropT_dR A ks r (rs ++ [enm i]) (n + 1) (c + 1) hd'.2 (fun j hj => by
        obtain ⟨g1, g2, g3⟩ := h j (by simp [hj])
        refine ⟨?_, g2, g3⟩
        have hne : ¬ enm j = enm i := fun e => hd'.1 (enm_inj e ▸ hj)
        simp at g1 ⊢
        exact ⟨g1, hne⟩)
      rw [this]
      simp only [List.map_cons, List.length_cons, List.append_assoc, List.singleton_append]
      rw [show n + 1 + (r.filter fun i => !decide (i ∈ ks)).length = n + ((r.filter fun i => !decide (i ∈ ks)).length + 1) by omega, show c + 1 + (r.filter fun i => !decide (i ∈ ks)).length = c + ((r.filter fun i => !decide (i ∈ ks)).length + 1) by omega]
/-- those that go -/
def gone (A : List (Bs × Bs)) (ks : List Bs) : List Bs := (idsOf A).filter fun i => !decide (i ∈ ks)
/-- the files that stay -/
def kpA (A : List (Bs × Bs)) (ks : List Bs) : List (Bs × Bs) := lft A ((gone A ks).map enm)
theorem lft_nil (A : List (Bs × Bs)) : lft A [] = A := List.filter_eq_self.2 (fun _ _ => rfl)
theorem keep_dR {A : List (Bs × Bs)} (h : EInv A) (ks : List Bs) (n : Nat) : dropK ks (dR A [] n) (idsOf (dR A [] n).now) = (dR A ((gone A ks).map enm) (n + (gone A ks).length), (gone A ks).length, 0) := by
  have := dropT_dR A ks (idsOf A) [] n 0 (ids_nodup h.s) (fun i hi => by have := ids_of (rs := []) h.n i (by rw [lft_nil]; exact hi); exact this)
  unfold dropK
  rw [dR_now0, this]
  simp [gone]
theorem keep_dR2 {A : List (Bs × Bs)} (h : EInv A) (ks : List Bs) (n : Nat) : (if 0 < (gone A ks).length then synD (dR A ((gone A ks).map enm) (n + (gone A ks).length)) else dR A ((gone A ks).map enm) (n + (gone A ks).length)) = dR (kpA A ks) [] (n + (gone A ks).length) := by
  by_cases hg : 0 < (gone A ks).length
  · rw [if_pos hg]
    unfold synD
    rw [dR_now]
    rfl
  · have : gone A ks = [] := List.length_eq_zero_iff.1 (by omega)
    rw [if_neg hg]
    unfold kpA
    rw [this]
    show dR A [] _ = dR (lft A []) [] _
    rw [lft_nil]
theorem keep_ok {A : List (Bs × Bs)} (h : EInv A) (hl : A.length ≤ 12) (ks : List Bs) (n : Nat) (hn : n ≤ 1000) : ∀ k (hk : k < (idsOf (dR A [] n).now).length), OkD (dropK ks (dR A [] n) ((idsOf (dR A [] n).now).take k)).1 ((idsOf (dR A [] n).now)[k]) := by
  rw [dR_now0]
  intro k hk
  have hd := dropT_dR A ks ((idsOf A).take k) [] n 0 ((List.take_sublist _ _).nodup (ids_nodup h.s)) (fun i hi => by have := ids_of (rs := []) h.n i (by rw [lft_nil]; exact List.mem_of_mem_take hi); exact this)
  have e : dropK ks (dR A [] n) ((idsOf A).take k) = (dR A ((((idsOf A).take k).filter fun i => !decide (i ∈ ks)).map enm) (n + (((idsOf A).take k).filter fun i => !decide (i ∈ ks)).length), (((idsOf A).take k).filter fun i => !decide (i ∈ ks)).length, 0) := by
    unfold dropK
    rw [hd]
    simp
  rw [e]
  simp only
  obtain ⟨y, hy, h2⟩ := mem_idsOf (List.getElem_mem hk)
  have hl64 := isIdB_len (idOf_some h2).2
  have hb : (((idsOf A).take k).filter fun i => !decide (i ∈ ks)).length ≤ 12 := by
    have h1 := List.length_filter_le (fun i => !decide (i ∈ ks)) ((idsOf A).take k)
    have h2 := len_ids A
    rw [List.length_take] at h1
    omega
  have ht := h.tt hl
  refine ⟨by omega, Nat.le_trans (rd_bd h.z _ _ _) (by omega), ?_, ?_⟩
  · rw [wt_dR]
    have e1 : (dR A ((((idsOf A).take k).filter fun i => !decide (i ∈ ks)).map enm) (n + (((idsOf A).take k).filter fun i => !decide (i ∈ ks)).length)).S.length = A.length := rfl
    have e2 : (dR A ((((idsOf A).take k).filter fun i => !decide (i ∈ ks)).map enm) (n + (((idsOf A).take k).filter fun i => !decide (i ∈ ks)).length)).ws.length = (((idsOf A).take k).filter fun i => !decide (i ∈ ks)).length := by simp [dR]
    rw [e1, e2]
    have e3 : (enm ((idsOf A)[k])).length = 66 := by simp [enm, hl64]
    omega
  · have e1 : (dR A ((((idsOf A).take k).filter fun i => !decide (i ∈ ks)).map enm) (n + (((idsOf A).take k).filter fun i => !decide (i ∈ ks)).length)).n = n + (((idsOf A).take k).filter fun i => !decide (i ∈ ks)).length := rfl
    rw [e1]
    omega
theorem gone_len (A : List (Bs × Bs)) (ks : List Bs) : (gone A ks).length ≤ A.length := Nat.le_trans (List.length_filter_le _ _) (len_ids A)
theorem keep_bd {A : List (Bs × Bs)} (h : EInv A) (hl : A.length ≤ 12) (ks : List Bs) (m : Nat) : (dR A ((gone A ks).map enm) m).wt + (dR A ((gone A ks).map enm) m).S.length + (dR A ((gone A ks).map enm) m).ws.length ≤ 70368744177 := by
  have ht := h.tt hl
  have := gone_len A ks
  rw [wt_dR]
  have e1 : (dR A ((gone A ks).map enm) m).S.length = A.length := rfl
  have e2 : (dR A ((gone A ks).map enm) m).ws.length = (gone A ks).length := by simp [dR]
  omega
/-- the ids of the files that stay -/
theorem ids_kp (A : List (Bs × Bs)) (ks : List Bs) : idsOf (kpA A ks) = (idsOf A).filter fun i => decide (i ∈ ks) := by
  have key : ∀ B : List (Bs × Bs), (∀ y ∈ B, ∀ i, idOf y.1 = some i → i ∈ idsOf A) → idsOf (lft B ((gone A ks).map enm)) = (idsOf B).filter fun i => decide (i ∈ ks) := by
    intro B
    induction B with
    | nil => intro _; rfl
    | cons y r ih =>
      intro h
      have ih := ih (fun z hz => h z (by simp [hz]))
      unfold lft idsOf at ih ⊢
      cases h2 : idOf y.1 with
      | none =>
        rw [List.filterMap_cons_none (by exact h2)]
        by_cases hc : (!((gone A ks).map enm).contains y.1) = true
        · rw [List.filter_cons_of_pos (by exact hc), List.filterMap_cons_none (by exact h2), ih]
        · rw [List.filter_cons_of_neg (by exact hc), ih]
      | some i =>
        have hin := h y (by simp) i h2
        have e := (idOf_some h2).1
        rw [List.filterMap_cons_some (by exact h2)]
        have hc : ((gone A ks).map enm).contains y.1 = !decide (i ∈ ks) := by
          rw [Bool.eq_iff_iff, List.contains_iff_mem, List.mem_map]
          constructor
          · rintro ⟨j, hj, e2⟩
            have : j = i := enm_inj (e2.trans e)
            rw [this] at hj
            unfold gone at hj
            exact (List.mem_filter.1 hj).2
          · intro hk
            exact ⟨i, by unfold gone; exact List.mem_filter.2 ⟨hin, hk⟩, e.symm⟩
        by_cases hk : i ∈ ks
        · rw [List.filter_cons_of_pos (by rw [hc]; simp [hk]), List.filterMap_cons_some (by exact h2), List.filter_cons_of_pos (by simp [hk]), ih]
        · rw [List.filter_cons_of_neg (by rw [hc]; simp [hk]), List.filter_cons_of_neg (by simp [hk]), ih]
  exact key A (fun y hy i hi => List.mem_filterMap.2 ⟨y, hy, hi⟩)
theorem flt_cnt (f : Bs → Bool) : ∀ l : List Bs, l.length = (l.filter f).length + (l.filter fun i => !f i).length
  | [] => rfl
  | x :: r => by
    have := flt_cnt f r
    cases h : f x
    · rw [List.filter_cons_of_neg (by simp [h]), List.filter_cons_of_pos (by simp [h]), List.length_cons, List.length_cons]; omega
    · rw [List.filter_cons_of_pos (by simp [h]), List.filter_cons_of_neg (by simp [h]), List.length_cons, List.length_cons]; omega
theorem cnt_kp (A : List (Bs × Bs)) (ks : List Bs) : (idsOf A).length = (idsOf (kpA A ks)).length + (gone A ks).length := by
  rw [ids_kp]
  unfold gone
  exact flt_cnt (fun i => decide (i ∈ ks)) (idsOf A)
theorem am_kp {A : List (Bs × Bs)} {ks : List Bs} {i : Bs} (hi : i ∈ idsOf A) : decide (i ∈ idsOf (kpA A ks)) = decide (i ∈ ks) := by
  rw [ids_kp]
  exact decide_eq_decide.2 (by rw [List.mem_filter]; simp [hi])
theorem EInv.kp {A : List (Bs × Bs)} (h : EInv A) (ks : List Bs) : EInv (kpA A ks) ∧ (kpA A ks).length ≤ A.length := ⟨h.flt _, List.length_filter_le _ _⟩
theorem gone_own (A : List (Bs × Bs)) : gone A (idsOf A) = [] := by
  unfold gone
  rw [List.filter_eq_nil_iff]
  intro i hi
  simp [hi]
end Go.Proofs.YtedogofeibdjiaaGreat
namespace Go.Proofs.YtedogofeibdjiaaGreat
open Go.RowKit Go.Maps
set_option linter.unusedVariables false
set_option linter.unusedSimpArgs false

/-- a store at x of the disk at p -/
structure XsM (w1 : World) (p x : Nat) (d : Ds) (W : World) : Prop where
  dk : ∃ c, DiskIs W c p d ∧ (∀ k, k < w1.heap.size → c k = c0 p k) ∧ 6 < c x
  kp : Keep (fun k => c0 p k < 6) w1 W
  st : StIs W x p
theorem XsM.go {w1 W w' : World} {p x : Nat} {d d' : Ds} {c : Nat → Nat} (h : XsM w1 p x d W) (hc : ∀ k, k < w1.heap.size → c k = c0 p k) (h6 : 6 < c x) (L : Left W c p d' w') : XsM w1 p x d' w' := by
  obtain ⟨⟨c', D', hc'⟩, K⟩ := L
  have s1 := h.kp.size
  exact ⟨⟨c', D', fun k hk => by rw [hc' k (by omega), hc k hk], by rw [hc' x h.st.lt]; exact h6⟩, h.kp.then K (fun j hj e => by rw [hc j hj] at e; exact e), (K.cell h.st.lt (by omega)).trans h.st⟩
theorem XsM.on {w1 W W' : World} {p x : Nat} {d : Ds} (h : XsM w1 p x d W) (k : Keep (fun _ => False) W W') : XsM w1 p x d W' := by
  obtain ⟨c, D, hc, h6⟩ := h.dk
  exact h.go hc h6 (left_same D k)
theorem XsM.below {w w1 W : World} {p x : Nat} {d : Ds} (h : XsM w1 p x d W) (k : Keep (fun _ => False) w w1) (hp : w.heap.size ≤ p) : Below w.heap.size w W := by
  refine keep_below ((k.mono (fun _ _ h => h.elim)).trans h.kp) (fun j hj e => ?_) (Nat.le_refl _)
  have e' : (if j = p then 0 else 7) < 6 := e
  rw [if_neg (by omega)] at e'
  omega
theorem xs_open (w1 : World) (p : Nat) (h : DiskIs w1 (c0 p) p d0) : Calls Tryz.prog 7 #[.pointer (some ⟨p, 0, none⟩)] w1 fun e w' => e = .returned (.tuple #[.pointer (some ⟨w1.heap.size, 0, none⟩), .int .i64 0, .int .i64 0]) ∧ XsM w1 p w1.heap.size (dR [] [] 0) w' := by
  have := open_up p (c0 p) d0 w1 h opok_d0
  rw [open_d0] at this
  exact this.mono fun e w' ⟨he, hL, hx, c', D, hc, h6⟩ => ⟨he, ⟨⟨c', D, hc, h6⟩, hL.2, hx⟩⟩
theorem xs_put {w1 W : World} {p x : Nat} {A : List (Bs × Bs)} {n : Nat} (h : XsM w1 p x (dR A [] n) W) (hA : EInv A) (hl : A.length ≤ 12) (hn : n ≤ 1000) (s : Bs) (hs : s.length ≤ 5000) :
    Calls Tryz.prog 11 #[.pointer (some ⟨x, 0, none⟩), .string (tx s)] W fun e w' => ∃ A' n' T r, e = .returned (.tuple #[.string T, .int .i64 r]) ∧ XsM w1 p x (dR A' [] n') w' ∧ EInv A' ∧ A'.length ≤ A.length + 1 ∧ n' ≤ n + 2 := by
  obtain ⟨c, D, hc, h6⟩ := h.dk
  obtain ⟨A', n', e1, i1, i2, i3⟩ := put_dR hA n s
  refine (put_any x p c _ s W h.st h6 D (Nat.le_trans (rd_bd hA.z _ _ _) (by omega)) (hA.lyok hl hn s hs)).mono fun e w' ⟨he, hL⟩ => ?_
  rw [e1] at hL
  exact ⟨A', n', _, _, he, h.go hc h6 hL, i1, i2, i3⟩
theorem xs_all {w1 W : World} {p x : Nat} {A : List (Bs × Bs)} {n : Nat} (h : XsM w1 p x (dR A [] n) W) (hA : EInv A) (hl : A.length ≤ 12) :
    Calls Tryz.prog 23 #[.pointer (some ⟨x, 0, none⟩)] W fun e w' => ∃ v, e = .returned v ∧ w'.ownsRow W.heap.size 9 1 v (idsOf A).length (txC (idsOf A)) ∧ Keep (fun _ => False) W w' := by
  obtain ⟨c, D, hc, h6⟩ := h.dk
  have := all_any x p c _ W h.st D rfl (by rw [dR_now0]; omega) (fun y hy => nameOk_len (hA.n y (by rw [dR_now0] at hy; exact hy)))
  rw [dR_now0] at this
  exact this
/-- Keep, behind what was made since Wa -/
theorem xs_keep {w1 Wa W : World} {p x : Nat} {A : List (Bs × Bs)} {n : Nat} (h : XsM w1 p x (dR A [] n) Wa) (k : Keep (fun _ => False) Wa W) (hA : EInv A) (hl : A.length ≤ 12) (hn : n ≤ 1000) (ks : List Bs) (v : Value) (hv : Strs W v (ks.map tx)) (hkl : ks.length ≤ 1048576) (hks : ∀ i ∈ ks, i.length ≤ 1048576) :
    Calls Tryz.prog 16 #[.pointer (some ⟨x, 0, none⟩), v] W fun e w' => e = .returned (.tuple #[.int .i64 (((gone A ks).length : Nat) : Int), .int .i64 0]) ∧ XsM w1 p x (dR (kpA A ks) [] (n + (gone A ks).length)) w' ∧ Keep (fun j => j < Wa.heap.size) W w' := by
  obtain ⟨c, D, hc, h6⟩ := h.dk
  have sK := k.size
  have s1 := h.kp.size
  have hxl := h.st.lt
  obtain ⟨c2, c1, c7⟩ : ∃ c2 : Nat → Nat, (∀ j, j < Wa.heap.size → c2 j = c j) ∧ ∀ j, Wa.heap.size ≤ j → c2 j = 7 := ⟨fun j => if j < Wa.heap.size then c j else 7, fun j hj => if_pos hj, fun j hj => if_neg (by omega)⟩
  have D2 := D.keep k c1 (fun _ _ h => h.elim)
  have xW : StIs W x p := h.st.keep k
  have hg := gone_len A ks
  have := keepX_any x p c2 (dR A [] n) (dR A ((gone A ks).map enm) (n + (gone A ks).length)) (gone A ks).length ks v W xW (by rw [c1 x hxl]; exact h6) D2 rfl (by rw [dR_now0]; omega) (fun y hy => nameOk_len (hA.n y (by rw [dR_now0] at hy; exact hy))) hv hkl hks (keep_ok hA hl ks n hn) (keep_dR hA ks n) rfl (keep_bd hA hl ks _) (by omega)
  rw [keep_dR2 hA ks n] at this
  refine this.mono fun e w' ⟨he, hL⟩ => ⟨he, ?_, ?_⟩
  · exact (h.on k).go (c := c2) (fun j hj => by rw [c1 j (by omega)]; exact hc j hj) (by rw [c1 x hxl]; exact h6) hL
  · exact hL.2.mono fun j hj e => by
      by_cases hlt : j < Wa.heap.size
      · exact hlt
      · have e' : c2 j < 6 := e
        rw [c7 j (by omega)] at e'
        omega
end Go.Proofs.YtedogofeibdjiaaGreat
namespace Go.Proofs.YtedogofeibdjiaaGreat
open Go.RowKit Go.Maps
set_option linter.unusedVariables false
set_option linter.unusedSimpArgs false

def abB : Bs := [97, 98]
set_option maxRecDepth 100000 in
set_option maxHeartbeats 4000000 in
theorem awake6 (w : World) : Calls Tryz.prog 8 #[] w fun e w' => e = .returned (.bool true) ∧ Below w.heap.size w w' := by
  have NW := hid (new_any w)
  obtain ⟨p, hp⟩ : ∃ p, p = w.heap.size := ⟨_, rfl⟩
  have HP := hid hp
  rw [← hp] at NW
  have O1 : Hid (∀ W, DiskIs W (c0 p) p d0 → Calls Tryz.prog 7 #[.pointer (some ⟨p, 0, none⟩)] W fun e w' => e = .returned (.tuple #[.pointer (some ⟨W.heap.size, 0, none⟩), .int .i64 0, .int .i64 0]) ∧ Left W (c0 p) p d0 w' ∧ StIs w' W.heap.size p ∧ ∃ c', DiskIs w' c' p d0 ∧ (∀ k, k < W.heap.size → c' k = c0 p k) ∧ 6 < c' W.heap.size) := fun W hD => by
    have := open_up p (c0 p) d0 W hD opok_d0
    rw [open_d0] at this
    exact this
  obtain ⟨D1, hD1⟩ : ∃ D1, D1 = dOne (enm (idB abB)) (filB abB) := ⟨_, rfl⟩
  obtain ⟨I, hI⟩ : ∃ I, I = tx (idB abB) := ⟨_, rfl⟩
  have P1 : Hid (∀ x c W, StIs W x p → 6 < c x → DiskIs W c p d0 → Calls Tryz.prog 11 #[.pointer (some ⟨x, 0, none⟩), .string ⟨#[97, 98]⟩] W fun e w' => e = .returned (.tuple #[.string I, .int .i64 0]) ∧ Left W c p D1 w') := fun x c W hx hc hD => by
    have := put_any x p c d0 abB W hx hc hD (by rw [show rdD d0 (enm (idB abB)) = ([], 4) by simp [rdD, d0, nameOk_enm, Ds.now, replay, kget]]; simp) (lyok_d0 abB (by decide))
    rw [put_d0 abB (by decide) (by decide), ← hD1] at this
    rw [hI]; exact this
  have F1 : Hid (∀ W c, DiskIs W c p D1 → Calls Tryz.prog 35 #[.pointer (some ⟨p, 0, none⟩), .int .i64 0, .int .i64 0] W fun e w' => e = .returned (.tuple #[]) ∧ Left W c p { D1 with dn := true } w') := fun W c hD => by
    have := fail_any p c D1 0 0 W hD (by rw [hD1]; have := filB_len abB (by decide); simp [Ds.wt, dOne, tot]; omega)
    rw [hD1, fail_one, ← hD1] at this
    exact this
  have U1 : Hid (∀ W c, DiskIs W c p { D1 with dn := true } → Calls Tryz.prog 36 #[.pointer (some ⟨p, 0, none⟩)] W fun e w' => e = .returned (.bool true) ∧ Left W c p D1 w') := fun W c hD => by
    have := up_any p c { D1 with dn := true } W hD
    rw [hD1] at this ⊢
    exact this
  have O2 : Hid (∀ c W, DiskIs W c p D1 → Calls Tryz.prog 7 #[.pointer (some ⟨p, 0, none⟩)] W fun e w' => e = .returned (.tuple #[.pointer (some ⟨W.heap.size, 0, none⟩), .int .i64 0, .int .i64 0]) ∧ Left W c p D1 w' ∧ StIs w' W.heap.size p) := fun c W hD => by
    have := open_up p c D1 W hD (by rw [hD1]; exact opok_one abB (by decide) (by decide))
    rw [hD1, open_one abB (by decide) (by decide), ← hD1] at this
    exact this.mono fun e w' ⟨a, b, c, _⟩ => ⟨a, b, c⟩
  have G1 : Hid (∀ x c W, StIs W x p → DiskIs W c p D1 → Calls Tryz.prog 37 #[.pointer (some ⟨x, 0, none⟩), .string I] W fun e w' => e = .returned (.tuple #[.string ⟨#[97, 98]⟩, .int .i64 0]) ∧ Keep (fun _ => False) W w') := fun x c W hx hD => by
    have := xget_any x p c D1 (idB abB) W hx hD (by rw [idB_len]; omega) (by rw [hD1, rd_one]; have := filB_len abB (by decide); simp only; omega)
    rw [hD1, get_one abB (by decide) (by decide), ← hI] at this
    exact this
  have ID := hid (fun W : World => id_any abB W (by decide))
  rw [← hI] at ID
  clear hD1 hI hp
  go_enter Tryz.func8, Tryz.ntmps8
  go_wp2_with fail
  refine NW.out.mono ?_
  rintro e w1 ⟨rfl, hDA, hkA⟩
  have HKA := hid hkA
  have O1b := hid (O1.out w1 hDA)
  clear NW O1 hDA hkA
  go_wp2_with fail
  refine O1b.out.mono ?_
  rintro e w2 ⟨rfl, hLB, hxB, c2, hDB, hcB, hc6⟩
  have HLB := hid hLB
  have P1b := hid (P1.out _ _ _ hxB hc6 hDB)
  have TRB : Hid (∀ d' W, Left w2 c2 p d' W → Left w1 (c0 p) p d' W) := fun d' W h => Left.trans hcB hLB.2 h
  clear O1b P1 hLB hxB hDB hcB hc6
  generalize w1.heap.size = x1 at *
  go_wp2_with fail
  refine P1b.out.mono ?_
  rintro e w3 ⟨rfl, hLC⟩
  have HLC := hid (TRB.out _ _ hLC)
  clear P1b hLC HLB
  go_wp2_with fail
  refine (stepL HLC.out F1.out).mono ?_
  rintro e w4 ⟨rfl, hLD⟩
  have HLD := hid hLD
  clear F1 hLD HLC
  go_wp2_with fail
  refine (stepL HLD.out U1.out).mono ?_
  rintro e w5 ⟨rfl, hLE⟩
  have HLE := hid hLE
  obtain ⟨⟨c5, hD5, hc5⟩, hK5⟩ := hLE
  have TRE : Hid (∀ d' W, Left w5 c5 p d' W → Left w1 (c0 p) p d' W) := fun d' W h => Left.trans hc5 hK5 h
  have O2b := hid (O2.out c5 w5 hD5)
  clear U1 HLD O2 hD5 hc5 hK5
  go_wp2_with fail
  refine O2b.out.mono ?_
  rintro e w6 ⟨rfl, hLF, hxF⟩
  have HLF := hid (TRE.out _ _ hLF)
  obtain ⟨⟨c6, hD6, _⟩, _⟩ := hLF
  have G1b := hid (G1.out _ c6 w6 hxF hD6)
  clear O2b G1 hxF hD6 HLE
  generalize w5.heap.size = x2 at *
  go_wp2_with fail
  refine G1b.out.mono ?_
  rintro e w7 ⟨rfl, hk7⟩
  have HLG := hid (HLF.out.keepR hk7)
  clear G1b hk7 HLF
  have IDb : Hid (Calls Tryz.prog 38 #[.string ⟨#[97, 98]⟩] w7 fun e w' => e = .returned (.string I) ∧ Keep (fun _ => False) w7 w') := ID.out w7
  clear ID
  go_wp2_with fail
  refine IDb.out.mono ?_
  rintro e w8 ⟨rfl, hk8⟩
  have HLH := hid (HLG.out.keepR hk8)
  clear IDb hk8 HLG
  go_wp2
  go_ret
  refine ⟨rfl, ?_⟩
  have k : Keep (fun k => c0 p k < 6) w w8 := (HKA.out.mono (fun _ _ h => h.elim)).trans HLH.out.2
  refine keep_below k (fun j hj h => ?_) (Nat.le_refl _)
  have h' : (if j = p then 0 else 7) < 6 := h
  rw [if_neg (by have := HP.out; omega)] at h'
  omega
end Go.Proofs.YtedogofeibdjiaaGreat
