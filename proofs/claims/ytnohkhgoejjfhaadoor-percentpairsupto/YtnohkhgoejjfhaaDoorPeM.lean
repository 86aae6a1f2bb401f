/- The mathematics of escapes: what is written, and what is read again; pairs; nothing of the program stands here. -/
namespace Go.Proofs.YtnohkhgoejjfhaaDoor

/-- a byte that stands for itself -/
def plB (c : UInt8) : Bool := decide ((97 ≤ c.toNat ∧ c.toNat ≤ 122) ∨ (65 ≤ c.toNat ∧ c.toNat ≤ 90) ∨ (48 ≤ c.toNat ∧ c.toNat ≤ 57) ∨ c.toNat = 45 ∨ c.toNat = 46 ∨ c.toNat = 95 ∨ c.toNat = 126)
/-- the same, or a stroke -/
def plP (c : UInt8) : Bool := plB c || decide (c.toNat = 47)
/-- a digit of an escape -/
def dgU (n : Nat) : UInt8 := UInt8.ofNat (if n < 10 then 48 + n else 55 + n)
/-- a byte's text -/
def esc1 (p : UInt8 → Bool) (c : UInt8) : List UInt8 := if p c then [c] else [37, dgU (c.toNat / 16), dgU (c.toNat % 16)]
/-- a text's -/
def escL (p : UInt8 → Bool) (l : List UInt8) : List UInt8 := l.flatMap (esc1 p)
/-- what a digit says; below 0, if it is none -/
def sxN (c : Nat) : Int := if 48 ≤ c ∧ c ≤ 57 then (c : Int) - 48 else if 65 ≤ c ∧ c ≤ 70 then (c : Int) - 55 else if 97 ≤ c ∧ c ≤ 102 then (c : Int) - 87 else -1
/-- what may stand raw somewhere -/
def rwB (c : UInt8) : Bool := decide (33 ≤ c.toNat ∧ c.toNat ≤ 126 ∧ c.toNat ≠ 37 ∧ c.toNat ≠ 35)
/-- a raw byte of a path -/
def rwP (c : UInt8) : Option UInt8 := if rwB c && decide (c.toNat ≠ 63) then some c else none
/-- a raw byte of a query -/
def rwQ (c : UInt8) : Option UInt8 := if c.toNat = 43 then some 32 else if rwB c then some c else none
/-- the byte that two digits say -/
def byS (a b : UInt8) : UInt8 := UInt8.ofNat (sxN a.toNat * 16 + sxN b.toNat).toNat
/-- the bytes that a text says -/
def rdE (raw : UInt8 → Option UInt8) : List UInt8 → Option (List UInt8)
  | [] => some []
  | c :: r =>
    if c.toNat = 37 then
      match r with
      | a :: b :: r' => if sxN a.toNat < 0 ∨ sxN b.toNat < 0 then none else (rdE raw r').map (byS a b :: ·)
      | _ => none
    else match raw c with
      | none => none
      | some d => (rdE raw r).map (d :: ·)

theorem rdE_nil (raw : UInt8 → Option UInt8) : rdE raw [] = some [] := by rw [rdE]
theorem rdE_raw (raw : UInt8 → Option UInt8) (c : UInt8) (r : List UInt8) (h : ¬ c.toNat = 37) : rdE raw (c :: r) = match raw c with | none => none | some d => (rdE raw r).map (d :: ·) := by
  rcases r with _ | ⟨a, _ | ⟨b, r⟩⟩
  · rw [rdE.eq_3 raw c [] (fun _ _ _ e => by cases e), if_neg h]
  · rw [rdE]
    · rw [if_neg h]
    · intro _ _ _ e; cases e
  · rw [rdE]; rw [if_neg h]
theorem rdE_esc (raw : UInt8 → Option UInt8) (c a b : UInt8) (r : List UInt8) (h : c.toNat = 37) : rdE raw (c :: a :: b :: r) = if sxN a.toNat < 0 ∨ sxN b.toNat < 0 then none else (rdE raw r).map (byS a b :: ·) := by
  rw [rdE]; rw [if_pos h]
theorem rdE_cut1 (raw : UInt8 → Option UInt8) (c : UInt8) (h : c.toNat = 37) : rdE raw [c] = none := by
  rw [rdE]
  · rw [if_pos h]
  · intro _ _ _ e; cases e
theorem rdE_cut2 (raw : UInt8 → Option UInt8) (c a : UInt8) (h : c.toNat = 37) : rdE raw [c, a] = none := by
  rw [rdE]
  · rw [if_pos h]
  · intro _ _ _ e; cases e

theorem sx_lt (c : Nat) : sxN c < 16 := by unfold sxN; repeat' split <;> omega
theorem sx_dg (n : Nat) (h : n < 16) : sxN (dgU n).toNat = n := by
  unfold dgU sxN
  by_cases h1 : n < 10
  · rw [if_pos h1, show (UInt8.ofNat (48 + n)).toNat = 48 + n by simp; omega, if_pos (by omega)]; omega
  · rw [if_neg h1, show (UInt8.ofNat (55 + n)).toNat = 55 + n by simp; omega, if_neg (by omega), if_pos (by omega)]; omega
theorem by_dg (c : UInt8) : byS (dgU (c.toNat / 16)) (dgU (c.toNat % 16)) = c := by
  have hc : c.toNat < 256 := UInt8.toNat_lt c
  unfold byS
  rw [sx_dg _ (by omega), sx_dg _ (by omega)]
  apply UInt8.toNat_inj.1
  rw [show (((c.toNat / 16 : Nat) : Int) * 16 + ((c.toNat % 16 : Nat) : Int)).toNat = c.toNat by omega]
  simp
theorem dg_set (n : Nat) (h : n < 16) : (48 ≤ (dgU n).toNat ∧ (dgU n).toNat ≤ 57) ∨ (65 ≤ (dgU n).toNat ∧ (dgU n).toNat ≤ 70) := by
  unfold dgU
  by_cases h1 : n < 10
  · rw [if_pos h1, show (UInt8.ofNat (48 + n)).toNat = 48 + n by simp; omega]; omega
  · rw [if_neg h1, show (UInt8.ofNat (55 + n)).toNat = 55 + n by simp; omega]; omega

theorem esc1_len (p : UInt8 → Bool) (c : UInt8) : 1 ≤ (esc1 p c).length ∧ (esc1 p c).length ≤ 3 := by unfold esc1; split <;> simp
theorem escL_cons (p : UInt8 → Bool) (c : UInt8) (l : List UInt8) : escL p (c :: l) = esc1 p c ++ escL p l := by unfold escL; rw [List.flatMap_cons]
theorem escL_take (p : UInt8 → Bool) (l : List UInt8) (k : Nat) (hk : k < l.length) : escL p (l.take (k + 1)) = escL p (l.take k) ++ esc1 p l[k] := by
  unfold escL; rw [List.take_succ_eq_append_getElem hk, List.flatMap_append]; simp
theorem escL_len (p : UInt8 → Bool) (l : List UInt8) : l.length ≤ (escL p l).length ∧ (escL p l).length ≤ 3 * l.length := by
  induction l with
  | nil => simp [escL]
  | cons c r ih =>
    have h := esc1_len p c
    rw [escL_cons, List.length_append, List.length_cons]
    omega
theorem escL_ne (p : UInt8 → Bool) (l : List UInt8) (h : l ≠ []) : escL p l ≠ [] := by
  intro e
  have h1 := (escL_len p l).1
  rw [e] at h1
  exact h (List.length_eq_zero_iff.1 (by simpa using h1))
/-- each byte of what is written is one that stays, a sign of escapes, or a digit -/
theorem escL_set (p : UInt8 → Bool) (l : List UInt8) : ∀ x ∈ escL p l, p x = true ∨ x.toNat = 37 ∨ (48 ≤ x.toNat ∧ x.toNat ≤ 57) ∨ (65 ≤ x.toNat ∧ x.toNat ≤ 70) := by
  intro x hx
  unfold escL at hx
  obtain ⟨c, -, hc⟩ := List.mem_flatMap.1 hx
  unfold esc1 at hc
  by_cases h : p c = true
  · rw [if_pos h] at hc
    rw [List.mem_singleton.1 hc]; exact .inl h
  · rw [if_neg h] at hc
    have hb : c.toNat < 256 := UInt8.toNat_lt c
    rcases List.mem_cons.1 hc with rfl | hc
    · exact .inr (.inl rfl)
    · rcases List.mem_cons.1 hc with rfl | hc
      · exact .inr (.inr (dg_set _ (by omega)))
      · rw [List.mem_singleton.1 hc]; exact .inr (.inr (dg_set _ (by omega)))

/-- what is written is read again -/
theorem rdE_escL (raw : UInt8 → Option UInt8) (p : UInt8 → Bool) (h : ∀ c, p c = true → ¬ c.toNat = 37 ∧ raw c = some c) (l : List UInt8) : rdE raw (escL p l) = some l := by
  induction l with
  | nil => exact rdE_nil raw
  | cons c r ih =>
    rw [escL_cons]
    unfold esc1
    by_cases hp : p c = true
    · rw [if_pos hp, List.singleton_append, rdE_raw raw c _ (h c hp).1, (h c hp).2, ih]; rfl
    · have hb : c.toNat < 256 := UInt8.toNat_lt c
      rw [if_neg hp]
      show rdE raw (37 :: dgU (c.toNat / 16) :: dgU (c.toNat % 16) :: escL p r) = _
      rw [rdE_esc raw 37 _ _ _ rfl, sx_dg _ (by omega), sx_dg _ (by omega), if_neg (by omega), ih, by_dg]; rfl
theorem plB_raw (c : UInt8) (h : plB c = true) : rwB c = true ∧ ¬ c.toNat = 63 ∧ ¬ c.toNat = 43 ∧ ¬ c.toNat = 37 ∧ ¬ c.toNat = 38 ∧ ¬ c.toNat = 61 := by
  unfold plB at h
  have h1 := of_decide_eq_true h
  unfold rwB
  exact ⟨decide_eq_true (by omega), by omega, by omega, by omega, by omega, by omega⟩
theorem plP_path (c : UInt8) (h : plP c = true) : ¬ c.toNat = 37 ∧ rwP c = some c := by
  unfold plP at h
  rcases Bool.or_eq_true_iff.1 h with h | h
  · have h1 := plB_raw c h
    refine ⟨h1.2.2.2.1, ?_⟩
    unfold rwP
    rw [h1.1, decide_eq_true h1.2.1]; rfl
  · have h1 := of_decide_eq_true h
    refine ⟨by omega, ?_⟩
    unfold rwP rwB
    rw [decide_eq_true (by omega), decide_eq_true (by omega)]; rfl
theorem plB_path (c : UInt8) (h : plB c = true) : ¬ c.toNat = 37 ∧ rwP c = some c := plP_path c (by unfold plP; rw [h]; rfl)
theorem plB_query (c : UInt8) (h : plB c = true) : ¬ c.toNat = 37 ∧ rwQ c = some c := by
  have h1 := plB_raw c h
  refine ⟨h1.2.2.2.1, ?_⟩
  unfold rwQ
  rw [if_neg h1.2.2.1, if_pos h1.1]
theorem rd_path (l : List UInt8) : rdE rwP (escL plP l) = some l := rdE_escL _ _ plP_path l
theorem rd_name (l : List UInt8) : rdE rwP (escL plB l) = some l := rdE_escL _ _ plB_path l
theorem rd_query (l : List UInt8) : rdE rwQ (escL plB l) = some l := rdE_escL _ _ plB_query l

/-- what is read is no longer than its text, and empty only of the empty text -/
theorem rdE_len (raw : UInt8 → Option UInt8) (n : Nat) : ∀ (t s : List UInt8), t.length ≤ n → rdE raw t = some s → s.length ≤ t.length ∧ (t ≠ [] → s ≠ []) := by
  induction n with
  | zero =>
    intro t s ht h
    obtain rfl : t = [] := List.length_eq_zero_iff.1 (by omega)
    rw [rdE_nil] at h
    obtain rfl := Option.some.inj h
    exact ⟨Nat.le_refl _, fun h => absurd rfl h⟩
  | succ n ih =>
    intro t s ht h
    cases t with
    | nil =>
      rw [rdE_nil] at h
      obtain rfl := Option.some.inj h
      exact ⟨Nat.le_refl _, fun h => absurd rfl h⟩
    | cons c r =>
      by_cases hc : c.toNat = 37
      · match r, ht, h with
        | [], _, h => rw [rdE_cut1 raw c hc] at h; cases h
        | [a], _, h => rw [rdE_cut2 raw c a hc] at h; cases h
        | a :: b :: r, ht, h =>
          rw [rdE_esc raw c a b r hc] at h
          split at h
          · cases h
          · obtain ⟨q, hq, rfl⟩ := Option.map_eq_some_iff.1 h
            have := (ih r q (by simp at ht; omega) hq).1
            exact ⟨by simp; omega, fun _ => by simp⟩
      · rw [rdE_raw raw c r hc] at h
        split at h
        · cases h
        · obtain ⟨q, hq, rfl⟩ := Option.map_eq_some_iff.1 h
          have := (ih r q (by simp at ht; omega) hq).1
          exact ⟨by simp; omega, fun _ => by simp⟩

/-- a pair: its name, its value -/
abbrev Pq := List UInt8 × List UInt8
/-- a pair's text -/
def pqT (p : Pq) : List UInt8 := if p.2 = [] then escL plB p.1 else escL plB p.1 ++ 61 :: escL plB p.2
/-- texts with a sign between them -/
def joinB (b : UInt8) : List (List UInt8) → List UInt8
  | [] => []
  | [x] => x
  | x :: y :: r => x ++ b :: joinB b (y :: r)
/-- what stands between a sign -/
def splitB (b : UInt8) : List UInt8 → List (List UInt8)
  | [] => [[]]
  | c :: r => if c = b then [] :: splitB b r else match splitB b r with
    | [] => [[c]]
    | x :: q => (c :: x) :: q
/-- what stands ahead of the first sign, and behind it -/
def cutB (b : UInt8) : List UInt8 → List UInt8 × List UInt8
  | [] => ([], [])
  | c :: r => if c = b then ([], r) else (c :: (cutB b r).1, (cutB b r).2)
/-- the pair that a part says -/
def rdPq (t : List UInt8) : Option Pq :=
  if (cutB 61 t).1 = [] then none else match rdE rwQ (cutB 61 t).1, rdE rwQ (cutB 61 t).2 with
    | some n, some v => some (n, v)
    | _, _ => none
/-- the pairs that parts say -/
def rdPqs : List (List UInt8) → Option (List Pq)
  | [] => some []
  | t :: r => match rdPq t with
    | none => none
    | some p => (rdPqs r).map (p :: ·)
/-- what pairs are written as, and the error -/
def quT (l : List Pq) : List UInt8 × Nat := if 16 < l.length then ([], 131) else if ∃ p ∈ l, p.1 = [] then ([], 3) else (joinB 38 (l.map pqT), 0)
/-- which pairs a text says, and the error -/
def unT (t : List UInt8) : List Pq × Nat := if t = [] then ([], 0) else if 16 < (splitB 38 t).length then ([], 131) else match rdPqs (splitB 38 t) with
  | none => ([], 3)
  | some l => (l, 0)

theorem splitB_ne (b : UInt8) (t : List UInt8) : splitB b t ≠ [] := by
  cases t with
  | nil => simp [splitB]
  | cons c r =>
    rw [splitB]
    split
    · simp
    · split <;> simp
theorem splitB_no (b : UInt8) (t : List UInt8) (h : ∀ x ∈ t, x ≠ b) : splitB b t = [t] := by
  induction t with
  | nil => rfl
  | cons c r ih =>
    rw [splitB, if_neg (h c (by simp)), ih (fun x hx => h x (List.mem_cons_of_mem _ hx))]
theorem splitB_app (b : UInt8) (x t : List UInt8) (h : ∀ y ∈ x, y ≠ b) : splitB b (x ++ b :: t) = x :: splitB b t := by
  induction x with
  | nil => rw [List.nil_append, splitB, if_pos rfl]
  | cons c r ih =>
    rw [List.cons_append, splitB, if_neg (h c (by simp)), ih (fun y hy => h y (List.mem_cons_of_mem _ hy))]
theorem split_join (b : UInt8) (l : List (List UInt8)) (hl : l ≠ []) (h : ∀ x ∈ l, ∀ y ∈ x, y ≠ b) : splitB b (joinB b l) = l := by
  induction l with
  | nil => exact absurd rfl hl
  | cons x r ih =>
    cases r with
    | nil => rw [joinB]; exact splitB_no b x (h x (by simp))
    | cons y r =>
      rw [joinB, splitB_app b x _ (h x (by simp)), ih (by simp) (fun z hz => h z (List.mem_cons_of_mem _ hz))]
theorem cutB_no (b : UInt8) (t : List UInt8) (h : ∀ x ∈ t, x ≠ b) : cutB b t = (t, []) := by
  induction t with
  | nil => rfl
  | cons c r ih => rw [cutB, if_neg (h c (by simp)), ih (fun x hx => h x (List.mem_cons_of_mem _ hx))]
theorem cutB_app (b : UInt8) (x t : List UInt8) (h : ∀ y ∈ x, y ≠ b) : cutB b (x ++ b :: t) = (x, t) := by
  induction x with
  | nil => rw [List.nil_append, cutB, if_pos rfl]
  | cons c r ih => rw [List.cons_append, cutB, if_neg (h c (by simp)), ih (fun y hy => h y (List.mem_cons_of_mem _ hy))]
/-- neither sign stands in what is written -/
theorem escL_no (l : List UInt8) : ∀ x ∈ escL plB l, x ≠ 38 ∧ x ≠ 61 := by
  intro x hx
  have h := escL_set plB l x hx
  have : ¬ x.toNat = 38 ∧ ¬ x.toNat = 61 := by
    rcases h with h | h
    · exact (plB_raw x h).2.2.2.2
    · omega
  exact ⟨fun e => this.1 (by rw [e]; rfl), fun e => this.2 (by rw [e]; rfl)⟩
theorem pqT_no (p : Pq) : ∀ x ∈ pqT p, x ≠ 38 := by
  intro x hx
  unfold pqT at hx
  split at hx
  · exact (escL_no _ x hx).1
  · rcases List.mem_append.1 hx with h | h
    · exact (escL_no _ x h).1
    · rcases List.mem_cons.1 h with rfl | h
      · decide
      · exact (escL_no _ x h).1
theorem rdPq_T (p : Pq) (h : p.1 ≠ []) : rdPq (pqT p) = some p := by
  obtain ⟨n, v⟩ := p
  unfold rdPq pqT
  by_cases hv : v = []
  · subst hv
    rw [if_pos rfl, cutB_no 61 _ (fun x hx => (escL_no n x hx).2), if_neg (escL_ne _ _ h), rd_query, rdE_nil]
  · rw [if_neg hv, cutB_app 61 _ _ (fun x hx => (escL_no n x hx).2), if_neg (escL_ne _ _ h), rd_query, rd_query]
theorem rdPqs_T (l : List Pq) (h : ∀ p ∈ l, p.1 ≠ []) : rdPqs (l.map pqT) = some l := by
  induction l with
  | nil => rfl
  | cons p r ih =>
    rw [List.map_cons, rdPqs, rdPq_T p (h p (by simp)), ih (fun q hq => h q (List.mem_cons_of_mem _ hq))]; rfl
theorem pqT_ne (p : Pq) (h : p.1 ≠ []) : pqT p ≠ [] := by
  unfold pqT
  split
  · exact escL_ne _ _ h
  · simp
theorem joinB_ne (b : UInt8) (x : List UInt8) (r : List (List UInt8)) (h : x ≠ []) : joinB b (x :: r) ≠ [] := by
  cases r with
  | nil => rw [joinB]; exact h
  | cons y r => rw [joinB]; simp
/-- pairs are read as they were written -/
theorem un_qu (l : List Pq) (h : (quT l).2 = 0) : unT (quT l).1 = (l, 0) := by
  unfold quT at h ⊢
  by_cases h1 : 16 < l.length
  · rw [if_pos h1] at h; cases h
  · rw [if_neg h1] at h ⊢
    by_cases h2 : ∃ p ∈ l, p.1 = []
    · rw [if_pos h2] at h; cases h
    · rw [if_neg h2]
      have hne : ∀ p ∈ l, p.1 ≠ [] := fun p hp e => h2 ⟨p, hp, e⟩
      cases l with
      | nil => rfl
      | cons p r =>
        have hs : splitB 38 (joinB 38 ((p :: r).map pqT)) = (p :: r).map pqT := split_join 38 _ (by simp) (fun x hx => by
          obtain ⟨q, -, rfl⟩ := List.mem_map.1 hx
          exact pqT_no q)
        unfold unT
        show (if joinB 38 ((p :: r).map pqT) = [] then _ else _) = _
        rw [if_neg (by rw [List.map_cons]; exact joinB_ne _ _ _ (pqT_ne p (hne p (by simp)))), hs, if_neg (by rw [List.length_map]; exact h1), rdPqs_T _ hne]
theorem rdPq_ne (t : List UInt8) (p : Pq) (h : rdPq t = some p) : p.1 ≠ [] := by
  unfold rdPq at h
  split at h
  · cases h
  · rename_i hc
    split at h
    · rename_i n v hn hv
      obtain rfl := Option.some.inj h
      exact (rdE_len rwQ _ _ _ (Nat.le_refl _) hn).2 hc
    · cases h
theorem rdPqs_ne (l : List (List UInt8)) : ∀ q : List Pq, rdPqs l = some q → q.length = l.length ∧ ∀ p ∈ q, p.1 ≠ [] := by
  induction l with
  | nil => intro q h; rw [rdPqs] at h; obtain rfl := Option.some.inj h; exact ⟨rfl, fun p hp => by cases hp⟩
  | cons t r ih =>
    intro q h
    rw [rdPqs] at h
    split at h
    · cases h
    · rename_i p hp
      obtain ⟨q', hq, rfl⟩ := Option.map_eq_some_iff.1 h
      have h1 := ih q' hq
      refine ⟨by simp [h1.1], fun x hx => ?_⟩
      rcases List.mem_cons.1 hx with rfl | hx
      · exact rdPq_ne t _ hp
      · exact h1.2 x hx
/-- pairs that are read are written -/
theorem qu_un (t : List UInt8) (h : (unT t).2 = 0) : (quT (unT t).1).2 = 0 := by
  have key : (unT t).1.length ≤ 16 ∧ ∀ p ∈ (unT t).1, p.1 ≠ [] := by
    unfold unT at h ⊢
    by_cases h0 : t = []
    · rw [if_pos h0]; exact ⟨by simp, fun p hp => by cases hp⟩
    · rw [if_neg h0] at h ⊢
      by_cases h1 : 16 < (splitB 38 t).length
      · rw [if_pos h1] at h; cases h
      · rw [if_neg h1] at h ⊢
        split at h
        · cases h
        · rename_i l hl
          have h2 := rdPqs_ne _ l hl
          exact ⟨by show l.length ≤ 16; omega, h2.2⟩
  unfold quT
  rw [if_neg (by omega), if_neg (fun ⟨p, hp, e⟩ => key.2 p hp e)]
theorem un_err (t : List UInt8) (h : (unT t).2 ≠ 0) : (unT t).1 = [] := by
  unfold unT at h ⊢
  by_cases h0 : t = []
  · rw [if_pos h0]
  · rw [if_neg h0] at h ⊢
    by_cases h1 : 16 < (splitB 38 t).length
    · rw [if_pos h1]
    · rw [if_neg h1] at h ⊢
      cases hl : rdPqs (splitB 38 t) with
      | none => rfl
      | some l => rw [hl] at h; exact absurd rfl h
end Go.Proofs.YtnohkhgoejjfhaaDoor
