/- Each step of the law on a net and on the reference's. -/
import Derived.Test.YtfcchmjofejkhaaNRel
namespace Go.Proofs.Ytfcchmjofejkhaa
open Go.RowKit Go.Maps
set_option linter.unusedVariables false
set_option linter.unusedSimpArgs false

/-- what was sent is under way, taken or lost -/
def InvN (n : Net) : Prop := n.se = n.ta + n.lo + n.L.length
structure Good (n : Net) (a : A8) (n' : Net) : Prop where
  inv : InvN n → InvN n'
  mem : ∀ x ∈ n'.L, x ∈ n.L ∨ (a.kind = 0 ∧ x = a.p)
  se : n'.se ≤ n.se + 1
  ta : n'.ta ≤ n.ta + 1
  lo : n'.lo ≤ n.lo + 4097
theorem lose_good (n : Net) (ct : List Bool) (G : Pk → Bool) (a : A8) (hl : n.L.length ≤ 4096) : Good n a (loseD { n with ct := ct } G) := by
  have hf := filt_le n.L (fun x => !G x)
  refine ⟨fun h => ?_, fun x hx => .inl (List.mem_filter.1 hx).1, Nat.le_succ _, Nat.le_succ _, ?_⟩
  · show n.se = n.ta + (n.lo + (n.L.length - (n.L.filter (fun x => !G x)).length)) + (n.L.filter (fun x => !G x)).length
    unfold InvN at h
    omega
  · show n.lo + (n.L.length - (n.L.filter (fun x => !G x)).length) ≤ _
    omega
theorem same_good (n : Net) (a : A8) : Good n a n := ⟨id, fun x hx => .inl hx, by omega, by omega, by omega⟩
theorem send_good (n : Net) (a : A8) (hk : a.kind = 0) : Good n a (sendD n a.p).1 := by
  unfold sendD
  split
  · refine ⟨fun h => ?_, fun x hx => ?_, Nat.le_refl _, Nat.le_succ _, by show n.lo ≤ _; omega⟩
    · show n.se + 1 = n.ta + n.lo + (n.L ++ [a.p]).length
      unfold InvN at h
      simp; omega
    · rcases List.mem_append.1 hx with h | h
      · exact .inl h
      · exact .inr ⟨hk, List.mem_singleton.1 h⟩
  · refine ⟨fun h => ?_, fun x hx => .inl hx, Nat.le_refl _, Nat.le_succ _, by show n.lo + 1 ≤ _; omega⟩
    show n.se + 1 = n.ta + (n.lo + 1) + n.L.length
    unfold InvN at h
    omega
theorem take_good (n : Net) (a : A8) (i : Int) : Good n a (takeN n i) := by
  unfold takeN
  split
  · rename_i h
    obtain ⟨e1, e2⟩ := hasI_nat h
    refine ⟨fun h => ?_, fun x hx => .inl (outL_mem hx), Nat.le_succ _, Nat.le_refl _, by show n.lo ≤ _; omega⟩
    show n.se = n.ta + 1 + n.lo + (outL n.L i.toNat).length
    rw [outL_len e2]
    unfold InvN at h
    omega
  · exact same_good n a
theorem drop_good (n : Net) (a : A8) (i : Int) : Good n a (dropN n i) := by
  unfold dropN
  split
  · rename_i h
    obtain ⟨e1, e2⟩ := hasI_nat h
    refine ⟨fun h => ?_, fun x hx => .inl (outL_mem hx), Nat.le_succ _, Nat.le_succ _, by show n.lo + 1 ≤ _; omega⟩
    show n.se = n.ta + (n.lo + 1) + (outL n.L i.toNat).length
    rw [outL_len e2]
    unfold InvN at h
    omega
  · exact same_good n a
theorem dbl_good (n : Net) (a : A8) (i : Int) : Good n a (dblN n i) := by
  unfold dblN
  split
  · rename_i h
    obtain ⟨e1, e2⟩ := hasI_nat h.1
    refine ⟨fun h => ?_, fun x hx => ?_, Nat.le_refl _, Nat.le_succ _, by show n.lo ≤ _; omega⟩
    · show n.se + 1 = n.ta + n.lo + (n.L ++ [_]).length
      unfold InvN at h
      simp; omega
    · rcases List.mem_append.1 hx with h | h
      · exact .inl h
      · rw [List.mem_singleton.1 h, atL_get e2 i rfl]; exact .inl (List.getElem_mem e2)
  · exact same_good n a
theorem cut_good (n : Net) (a : A8) (x y : Int) (hl : n.L.length ≤ 4096) : Good n a (cutN' n x y) := by
  unfold cutN'
  split
  · exact lose_good n _ _ a hl
  · exact same_good n a

theorem Rel.keepL {n : Net} {m : RNet} (h : Rel n m) (L : List Pk) (se ta lo : Nat) : Rel { n with L := L, se := se, ta := ta, lo := lo } { m with L := L, se := se, ta := ta, lo := lo } := ⟨rfl, rfl, rfl, rfl, h.ct, h.cut⟩
theorem send_rel {n : Net} {m : RNet} (h : Rel n m) (x : Pk) : (sendD n x).2 = (rsendD m x).2 ∧ Rel (sendD n x).1 (rsendD m x).1 := by
  unfold sendD rsendD
  have e : (two x.fr x.tt = true ∧ cutAt n.ct x.fr x.tt = false ∧ n.L.length < 4096) ↔ (two x.fr x.tt = true ∧ rcut m.cs x.fr x.tt = false ∧ m.L.length < 4096) := by
    rw [h.L]
    constructor
    · rintro ⟨h1, h2, h3⟩
      refine ⟨h1, ?_, h3⟩
      simp [two] at h1
      rw [← h.cut _ _ h1.1.1 h1.1.2]; exact h2
    · rintro ⟨h1, h2, h3⟩
      refine ⟨h1, ?_, h3⟩
      simp [two] at h1
      rw [h.cut _ _ h1.1.1 h1.1.2]; exact h2
  by_cases hc : two x.fr x.tt = true ∧ cutAt n.ct x.fr x.tt = false ∧ n.L.length < 4096
  · rw [if_pos hc, if_pos (e.1 hc)]
    exact ⟨rfl, by rw [h.L]; exact congrArg (· + 1) h.se |> fun e1 => ⟨rfl, e1, h.ta, h.lo, h.ct, h.cut⟩⟩
  · rw [if_neg hc, if_neg (fun h' => hc (e.2 h'))]
    exact ⟨rfl, ⟨h.L, congrArg (· + 1) h.se, h.ta, congrArg (· + 1) h.lo, h.ct, h.cut⟩⟩
theorem take_rel {n : Net} {m : RNet} (h : Rel n m) (i : Int) : Rel (takeN n i) (rtakeN m i) := by
  unfold takeN rtakeN
  rw [h.L]
  split
  · exact ⟨rfl, h.se, congrArg (· + 1) h.ta, h.lo, h.ct, h.cut⟩
  · exact h
theorem drop_rel {n : Net} {m : RNet} (h : Rel n m) (i : Int) : Rel (dropN n i) (rdropN m i) := by
  unfold dropN rdropN
  rw [h.L]
  split
  · exact ⟨rfl, h.se, h.ta, congrArg (· + 1) h.lo, h.ct, h.cut⟩
  · exact h
theorem dbl_rel {n : Net} {m : RNet} (h : Rel n m) (i : Int) : Rel (dblN n i) (rdblN m i) := by
  unfold dblN rdblN
  rw [h.L]
  split
  · exact ⟨rfl, congrArg (· + 1) h.se, h.ta, h.lo, h.ct, h.cut⟩
  · exact h
theorem rcut_app (cs : List (Int × Int)) (y x a b : Int) : rcut (cs ++ [(y, x)]) a b = (decide ((a = y ∧ b = x) ∨ (a = x ∧ b = y)) || rcut cs a b) := by
  unfold rcut
  rw [List.any_append]
  simp only [List.any_cons, List.any_nil, Bool.or_false]
  rw [Bool.or_comm]
  congr 1
  unfold hitC
  by_cases h1 : a = y ∧ b = x
  · obtain ⟨rfl, rfl⟩ := h1; simp
  · by_cases h2 : a = x ∧ b = y
    · obtain ⟨rfl, rfl⟩ := h2; simp
    · rw [decide_eq_false (fun e => e.elim h1 h2)]
      simp
      constructor
      · intro e1 e2; exact h1 ⟨e1.symm, e2.symm⟩
      · intro e1 e2; exact h2 ⟨e2.symm, e1.symm⟩
theorem filt_rel {L : List Pk} {K K' : Pk → Bool} (h : ∀ x ∈ L, K x = K' x) : L.filter K = L.filter K' := by
  induction L with
  | nil => rfl
  | cons x r ih =>
    have h1 := h x (by simp)
    have h2 := ih (fun y hy => h y (by simp [hy]))
    simp only [List.filter_cons, h1, h2]
theorem cut_rel {n : Net} {m : RNet} (h : Rel n m) (a b : Int) (hnd : ∀ x ∈ n.L, two x.fr x.tt = true) : cutX n a b = rcutX m a b ∧ Rel (cutN' n a b) (rcutN m a b) := by
  unfold cutX rcutX cutN' rcutN
  by_cases ht : two a b = true
  · rw [if_pos ht, if_pos ht, if_pos ht, if_pos ht]
    have hc : ∀ x y, isN x = true → isN y = true → cutAt (cutC n.ct a b) x y = rcut (m.cs ++ [(a, b)]) x y := fun x y hx hy => by
      rw [cutC_at n.ct a b x y h.ct ht hx hy, rcut_app, h.cut x y hx hy]
    have hf : n.L.filter (fun x => !cutAt (cutC n.ct a b) x.fr x.tt) = m.L.filter (fun x => !rcut (m.cs ++ [(a, b)]) x.fr x.tt) := by
      rw [← h.L]
      refine filt_rel fun x hx => ?_
      have := hnd x hx
      simp [two] at this
      rw [hc _ _ this.1.1 this.1.2]
    refine ⟨by rw [hf, h.L], ⟨hf, h.se, h.ta, ?_, by show (cutC n.ct a b).length = 49; rw [cutC_len]; exact h.ct, hc⟩⟩
    show n.lo + (n.L.length - (n.L.filter (fun x => !cutAt (cutC n.ct a b) x.fr x.tt)).length) = m.lo + (m.L.length - (m.L.filter (fun x => !rcut (m.cs ++ [(a, b)]) x.fr x.tt)).length)
    rw [hf, h.L, h.lo]
  · rw [if_neg ht, if_neg ht, if_neg ht, if_neg ht]
    exact ⟨rfl, h⟩
theorem NSt.net {w0 w : World} {A : Nat → Prop} {p : Nat} {n : Net} (h : NSt w0 A p n w) : n.L.length ≤ 4096 ∧ n.ct.length = 49 ∧ (∀ x ∈ n.L, two x.fr x.tt = true) ∧ ∀ x ∈ n.L, x.s.size ≤ 140737488355328 := by
  obtain ⟨P, ⟨v, hv⟩, _⟩ := h
  exact ⟨hv.ln, hv.ct, hv.nd, hv.sz⟩
/-- one step -/
theorem one_gen (w0 : World) (A : Nat → Prop) (p : Nat) (n : Net) (lv cv : Value) (m : RNet) (a : A8) (w : World) (hS : NSt w0 A p n w) (hR : RfIs w lv cv m) (hs : a.p.s.size ≤ 140737488355328)
    (b1 : n.se < 1000000000 ∧ n.ta < 1000000000 ∧ n.lo < 1000000000) (b2 : m.se < 1000000000 ∧ m.ta < 1000000000 ∧ m.lo < 1000000000 ∧ m.cs.length < 100000) (hq : Rel n m ∨ (m.L = [] ∧ a.kind ≠ 1)) :
    Calls Try.prog 11 #[.pointer (some ⟨p, 0, none⟩), rmV lv cv m, a8V a] w fun e w' => ∃ lv' cv' m' n' b, e = .returned (.tuple #[rmV lv' cv' m', .bool b]) ∧ RfIs w' lv' cv' m' ∧ NSt w0 A p n' w' ∧ Keep (fun j => ¬ A j ∧ ¬ Oth w j) w w' ∧ Good n a n' ∧ m'.cs.length ≤ m.cs.length + 1 ∧ (Rel n m → b = true ∧ Rel n' m') := by
  obtain ⟨c1, c2, c3⟩ := b1
  obtain ⟨d1, d2, d3, d4⟩ := b2
  obtain ⟨hln, hct, hnd, hsz⟩ := hS.net
  obtain ⟨kd, ⟨fr, tt, s⟩, an, am⟩ := a
  unfold a8V
  simp only at *
  by_cases k0 : kd = 0
  · have h := one0_any w0 A p n (sendD n ⟨fr, tt, s⟩).1 lv cv m (rsendD m ⟨fr, tt, s⟩).1 kd fr tt an am s (rsendD m ⟨fr, tt, s⟩).2 (sendD n ⟨fr, tt, s⟩).2 w k0 hS hR
      (fun W hW => (rsend_any lv cv m ⟨fr, tt, s⟩ W (hR.keep hW) (by omega) (by omega)).mono fun e w' ⟨lv', he, hr, hk⟩ => ⟨lv', cv, he, hr, hk⟩)
      (fun P1 W h1 => send_any p P1 n ⟨fr, tt, s⟩ W h1 hs (by omega) (by omega))
    refine h.mono ?_
    rintro e w' ⟨lv', cv', he, hr, hn, hk⟩
    refine ⟨lv', cv', _, _, _, he, hr, hn, hk, send_good n ⟨kd, ⟨fr, tt, s⟩, an, am⟩ k0, ?_, fun hrel => ?_⟩
    · unfold rsendD; split <;> exact Nat.le_succ _
    · obtain ⟨e1, e2⟩ := send_rel hrel ⟨fr, tt, s⟩
      exact ⟨by rw [e1]; simp, e2⟩
  by_cases k1 : kd = 1
  · have hrel : Rel n m := hq.elim id (fun h => absurd k1 h.2)
    have hL := hrel.L
    have h := one1_any w0 A p n (takeN n an) lv cv m (rtakeN m an) kd fr tt an am s w hS hR k1 (if hasI n.L.length an = true then atL n.L an else pk0).fr (if hasI n.L.length an = true then atL n.L an else pk0).tt (if hasI n.L.length an = true then atL n.L an else pk0).s (hasI n.L.length an)
      (fun W hW => by have := qtake an (hR.keep hW) (by omega); rw [← hL] at this; exact this) (fun P1 W h1 => ptake an h1 (by omega))
    refine h.mono ?_
    rintro e w' ⟨lv', cv', he, hr, hn, hk⟩
    refine ⟨lv', cv', _, _, _, he, hr, hn, hk, take_good n _ an, ?_, fun hrel => ⟨rfl, take_rel hrel an⟩⟩
    unfold rtakeN; split <;> exact Nat.le_succ _
  by_cases k2 : kd = 2
  · have h := one2_any w0 A p n (dropN n an) lv cv m (rdropN m an) kd fr tt an am s (hasI m.L.length an) (hasI n.L.length an) w k2 hS hR
      (fun W hW => qdrop an (hR.keep hW) (by omega)) (fun P1 W h1 => pdrop an h1 (by omega))
    refine h.mono ?_
    rintro e w' ⟨lv', cv', he, hr, hn, hk⟩
    refine ⟨lv', cv', _, _, _, he, hr, hn, hk, drop_good n _ an, ?_, fun hrel => ⟨by rw [hrel.L]; simp, drop_rel hrel an⟩⟩
    unfold rdropN; split <;> exact Nat.le_succ _
  by_cases k3 : kd = 3
  · have h := one3_any w0 A p n (dblN n an) lv cv m (rdblN m an) kd fr tt an am s (hasI m.L.length an && decide (m.L.length < 4096)) (hasI n.L.length an && decide (n.L.length < 4096)) w k3 hS hR
      (fun W hW => qdbl an (hR.keep hW) (by omega)) (fun P1 W h1 => pdbl an h1 (by omega))
    refine h.mono ?_
    rintro e w' ⟨lv', cv', he, hr, hn, hk⟩
    refine ⟨lv', cv', _, _, _, he, hr, hn, hk, dbl_good n _ an, ?_, fun hrel => ⟨by rw [hrel.L]; simp, dbl_rel hrel an⟩⟩
    unfold rdblN; split <;> exact Nat.le_succ _
  by_cases k4 : kd = 4
  · have h := one4_any w0 A p n (cutN' n an am) lv cv m (rcutN m an am) kd fr tt an am s (rcutX m an am) (cutX n an am) w k4 hS hR
      (fun W hW => qcut an am (hR.keep hW) (by omega) (by omega)) (fun P1 W h1 => pcut an am h1 (by omega))
    refine h.mono ?_
    rintro e w' ⟨lv', cv', he, hr, hn, hk⟩
    refine ⟨lv', cv', _, _, _, he, hr, hn, hk, cut_good n _ an am hln, ?_, fun hrel => ?_⟩
    · unfold rcutN; split
      · show (m.cs ++ [(an, am)]).length ≤ _; simp
      · exact Nat.le_succ _
    · obtain ⟨e1, e2⟩ := cut_rel hrel an am hnd
      exact ⟨by rw [e1]; simp, e2⟩
  by_cases k5 : kd = 5
  · have h := one5_any w0 A p n { n with ct := List.replicate 49 false } lv cv m m kd fr tt an am s w hS hR k5 (fun P1 W h1 => heal_any p P1 n W h1)
    refine h.mono ?_
    rintro e w' ⟨lv', cv', he, hr, hn, hk⟩
    refine ⟨lv', cv', _, _, _, he, hr, hn, hk, ⟨id, fun x hx => .inl hx, Nat.le_succ _, Nat.le_succ _, by show n.lo ≤ _; omega⟩, Nat.zero_le _, fun hrel => ⟨rfl, ⟨hrel.L, hrel.se, hrel.ta, hrel.lo, List.length_replicate, fun a b _ _ => cut0 a b⟩⟩⟩
  by_cases k6 : kd = 6
  · have h := one6_any w0 A p n (loseD n (fun x => x.tt == an)) lv cv m (rloseD m (fun x => x.tt == an)) kd fr tt an am s ((m.L.length - (m.L.filter (fun x => !(x.tt == an))).length : Nat) : Int) ((n.L.length - (n.L.filter (fun x => !(x.tt == an))).length : Nat) : Int) w k6 hS hR
      (fun W hW => (rclear_any lv cv m an W (hR.keep hW) (by omega)).mono fun e w' ⟨lv', he, hr, hk⟩ => ⟨lv', cv, he, hr, hk⟩) (fun P1 W h1 => nclear_any p P1 n an W h1 (by omega))
    refine h.mono ?_
    rintro e w' ⟨lv', cv', he, hr, hn, hk⟩
    refine ⟨lv', cv', _, _, _, he, hr, hn, hk, lose_good n n.ct _ _ hln, Nat.le_succ _, fun hrel => ⟨by rw [hrel.L]; simp, ⟨by show n.L.filter _ = m.L.filter _; rw [hrel.L], hrel.se, hrel.ta, ?_, hrel.ct, hrel.cut⟩⟩⟩
    show n.lo + (n.L.length - (n.L.filter (fun x => !(x.tt == an))).length) = m.lo + (m.L.length - (m.L.filter (fun x => !(x.tt == an))).length)
    rw [hrel.L, hrel.lo]
  · have hkd : kd ≠ 0 ∧ kd ≠ 1 ∧ kd ≠ 2 ∧ kd ≠ 3 ∧ kd ≠ 4 ∧ kd ≠ 5 ∧ kd ≠ 6 := ⟨k0, k1, k2, k3, k4, k5, k6⟩
    have PN : hasI n.L.length an = false → ∀ P1 W, NetIs W P1 p n → Calls Try.prog 20 #[.pointer (some ⟨p, 0, none⟩), .int .i64 an] W fun e w' => e = .returned (.tuple #[pkV pk0, .bool false]) ∧ Keep (fun _ => False) W w' := fun h P1 W h1 =>
      at_none _ an W fun W' hk' => by have h9 := nhas_any p _ n an W' (h1.keep hk' (fun _ _ h => h.elim)); rwa [h] at h9
    have PS : hasI n.L.length an = true → ∀ P1 W, NetIs W P1 p n → Calls Try.prog 20 #[.pointer (some ⟨p, 0, none⟩), .int .i64 an] W fun e w' => e = .returned (.tuple #[pkV (atL n.L an), .bool true]) ∧ Keep (fun _ => False) W w' := fun h P1 W h1 => by
      obtain ⟨e1, e2⟩ := hasI_nat h
      have := at_some p P1 n an.toNat e2 W h1
      rw [← e1] at this
      rw [atL_get e2 an rfl]; exact this
    by_cases hm : hasI m.L.length an = true
    · have hrel : Rel n m := hq.elim id (fun h => by rw [h.1] at hm; simp [hasI] at hm; omega)
      have hL := hrel.L
      obtain ⟨e1, e2⟩ := hasI_nat hm
      have h := one7_same w0 A p n n lv cv m m kd fr tt an am s w hS hR hkd (atL m.L an).fr (atL m.L an).tt (atL m.L an).s true
        (fun W hW => by have := rat_some lv cv m an.toNat e2 W (hR.keep hW); rw [← e1] at this; rw [atL_get e2 an rfl]; exact this)
        (fun P1 W h1 => by have := PS (by rw [hL]; exact hm) P1 W h1; rw [hL] at this; exact this)
      exact h.mono fun e w' ⟨lv', cv', he, hr, hn, hk⟩ => ⟨lv', cv', _, _, _, he, hr, hn, hk, same_good n _, Nat.le_succ _, fun hrel => ⟨rfl, hrel⟩⟩
    · have hm' : hasI m.L.length an = false := by simpa using hm
      by_cases hn : hasI n.L.length an = true
      · have h := one7_diff w0 A p n n lv cv m m kd fr tt an am s w hS hR hkd (atL n.L an).fr (atL n.L an).tt (atL n.L an).s
          (fun W hW => rat_none lv cv m an W (hR.keep hW) hm') (fun P1 W h1 => PS hn P1 W h1)
        exact h.mono fun e w' ⟨lv', cv', he, hr, hn2, hk⟩ => ⟨lv', cv', _, _, _, he, hr, hn2, hk, same_good n _, Nat.le_succ _, fun hrel => by rw [hrel.L, hm'] at hn; cases hn⟩
      · have hn' : hasI n.L.length an = false := by simpa using hn
        have h := one7_same w0 A p n n lv cv m m kd fr tt an am s w hS hR hkd 0 0 ⟨#[]⟩ false
          (fun W hW => rat_none lv cv m an W (hR.keep hW) hm') (fun P1 W h1 => PN hn' P1 W h1)
        exact h.mono fun e w' ⟨lv', cv', he, hr, hn, hk⟩ => ⟨lv', cv', _, _, _, he, hr, hn, hk, same_good n _, Nat.le_succ _, fun hrel => ⟨rfl, hrel⟩⟩
end Go.Proofs.Ytfcchmjofejkhaa
