/- A net and the reference's stand for the same; each step keeps that. -/
import Derived.Test.YtfcchmjofejkhaaNOneB
import Derived.Test.YtfcchmjofejkhaaWNCuts
namespace Go.Proofs.Ytfcchmjofejkhaa
open Go.RowKit Go.Maps
set_option linter.unusedVariables false
set_option linter.unusedSimpArgs false

structure Rel (n : Net) (m : RNet) : Prop where
  L : n.L = m.L
  se : n.se = m.se
  ta : n.ta = m.ta
  lo : n.lo = m.lo
  ct : n.ct.length = 49
  cut : ∀ a b, isN a = true → isN b = true → cutAt n.ct a b = rcut m.cs a b
def atL (L : List Pk) (i : Int) : Pk := L.getD i.toNat pk0
def takeN (n : Net) (i : Int) : Net := if hasI n.L.length i = true then { n with L := outL n.L i.toNat, ta := n.ta + 1 } else n
def dropN (n : Net) (i : Int) : Net := if hasI n.L.length i = true then { n with L := outL n.L i.toNat, lo := n.lo + 1 } else n
def dblN (n : Net) (i : Int) : Net := if hasI n.L.length i = true ∧ n.L.length < 4096 then { n with L := n.L ++ [atL n.L i], se := n.se + 1 } else n
def cutN' (n : Net) (a b : Int) : Net := if two a b = true then loseD { n with ct := cutC n.ct a b } (fun x => cutAt (cutC n.ct a b) x.fr x.tt) else n
def cutX (n : Net) (a b : Int) : Int := if two a b = true then ((n.L.length - (n.L.filter (fun x => !cutAt (cutC n.ct a b) x.fr x.tt)).length : Nat) : Int) else 0
def rtakeN (m : RNet) (i : Int) : RNet := if hasI m.L.length i = true then { m with L := outL m.L i.toNat, ta := m.ta + 1 } else m
def rdropN (m : RNet) (i : Int) : RNet := if hasI m.L.length i = true then { m with L := outL m.L i.toNat, lo := m.lo + 1 } else m
def rdblN (m : RNet) (i : Int) : RNet := if hasI m.L.length i = true ∧ m.L.length < 4096 then { m with L := m.L ++ [atL m.L i], se := m.se + 1 } else m
def rcutN (m : RNet) (a b : Int) : RNet := if two a b = true then rloseD { m with cs := m.cs ++ [(a, b)] } (fun x => rcut (m.cs ++ [(a, b)]) x.fr x.tt) else m
def rcutX (m : RNet) (a b : Int) : Int := if two a b = true then ((m.L.length - (m.L.filter (fun x => !rcut (m.cs ++ [(a, b)]) x.fr x.tt)).length : Nat) : Int) else 0
theorem hasI_nat {m : Nat} {i : Int} (h : hasI m i = true) : i = (i.toNat : Int) ∧ i.toNat < m := by
  simp [hasI] at h
  omega
theorem atL_get {L : List Pk} {k : Nat} (hk : k < L.length) (i : Int) (hi : i.toNat = k) : atL L i = L[k] := by
  unfold atL; rw [hi]; simp [List.getD, hk]
theorem atL_none {L : List Pk} {i : Int} (h : hasI L.length i = false) (h0 : 0 ≤ i) : atL L i = pk0 := by
  unfold atL
  simp [hasI] at h
  rw [List.getD_eq_getElem?_getD, List.getElem?_eq_none (by omega)]
  rfl
section
variable {p : Nat} {n : Net} {P1 : Nat → Prop} {W : World}
theorem ptake (i : Int) (h1 : NetIs W P1 p n) (hb : n.ta ≤ 1152921504606846976) : Calls Try.prog 16 #[.pointer (some ⟨p, 0, none⟩), .int .i64 i] W fun e w' => e = .returned (.tuple #[pkV (if hasI n.L.length i = true then atL n.L i else pk0), .bool (hasI n.L.length i)]) ∧ NLeft W P1 p (takeN n i) w' := by
  by_cases h : hasI n.L.length i = true
  · obtain ⟨e1, e2⟩ := hasI_nat h
    have := take_some p P1 n i.toNat e2 hb W h1
    rw [← e1] at this
    rw [if_pos h, h, takeN, if_pos h, atL_get e2 i rfl]
    exact this
  · have h' : hasI n.L.length i = false := by simpa using h
    rw [if_neg h, h', takeN, if_neg h]
    refine (take_none (.pointer (some ⟨p, 0, none⟩)) i W (fun W' k => ?_)).mono fun e w' ⟨he, hk⟩ => ⟨he, nleft_same h1 hk⟩
    have h9 := nhas_any p _ n i W' (h1.keep k (fun _ _ h => h.elim))
    rwa [h'] at h9
theorem pdrop (i : Int) (h1 : NetIs W P1 p n) (hb : n.lo ≤ 1152921504606846976) : Calls Try.prog 22 #[.pointer (some ⟨p, 0, none⟩), .int .i64 i] W fun e w' => e = .returned (.bool (hasI n.L.length i)) ∧ NLeft W P1 p (dropN n i) w' := by
  by_cases h : hasI n.L.length i = true
  · obtain ⟨e1, e2⟩ := hasI_nat h
    have := ndrop_some p P1 n i.toNat e2 hb W h1
    rw [← e1] at this
    rw [h, dropN, if_pos h]
    exact this
  · have h' : hasI n.L.length i = false := by simpa using h
    rw [h', dropN, if_neg h]
    refine (ndrop_none (.pointer (some ⟨p, 0, none⟩)) i W (fun W' k => ?_)).mono fun e w' ⟨he, hk⟩ => ⟨he, nleft_same h1 (hk ▸ Keep.refl _ _)⟩
    have h9 := nhas_any p _ n i W' (k ▸ h1)
    rwa [h'] at h9
theorem pdbl (i : Int) (h1 : NetIs W P1 p n) (hb : n.se ≤ 1152921504606846976) : Calls Try.prog 14 #[.pointer (some ⟨p, 0, none⟩), .int .i64 i] W fun e w' => e = .returned (.bool (hasI n.L.length i && decide (n.L.length < 4096))) ∧ NLeft W P1 p (dblN n i) w' := by
  by_cases hl : n.L.length < 4096
  · by_cases h : hasI n.L.length i = true
    · obtain ⟨e1, e2⟩ := hasI_nat h
      have := double_some p P1 n i.toNat e2 hl hb W h1
      rw [← e1] at this
      rw [h, dblN, if_pos ⟨h, hl⟩, atL_get e2 i rfl, decide_eq_true hl]
      exact this
    · have h' : hasI n.L.length i = false := by simpa using h
      rw [h', dblN, if_neg (fun e => h e.1)]
      refine (double_none (.pointer (some ⟨p, 0, none⟩)) i W (fun W' k => ?_)).mono fun e w' ⟨he, hk⟩ => ⟨he, nleft_same h1 (hk ▸ Keep.refl _ _)⟩
      have h9 := nhas_any p _ n i W' (k ▸ h1)
      rwa [h'] at h9
  · rw [decide_eq_false hl, Bool.and_false, dblN, if_neg (fun e => hl e.2)]
    exact (double_full p P1 n i W h1 hl).mono fun e w' ⟨he, hk⟩ => ⟨he, nleft_same h1 (hk ▸ Keep.refl _ _)⟩
theorem pcut (a b : Int) (h1 : NetIs W P1 p n) (hb : n.lo ≤ 1152921504606846976) : Calls Try.prog 18 #[.pointer (some ⟨p, 0, none⟩), .int .i64 a, .int .i64 b] W fun e w' => e = .returned (.int .i64 (cutX n a b)) ∧ NLeft W P1 p (cutN' n a b) w' := by
  by_cases h : two a b = true
  · rw [cutX, if_pos h, cutN', if_pos h]
    exact ncut_some p P1 n a b W h1 hb h
  · rw [cutX, if_neg h, cutN', if_neg h]
    exact (ncut_none p a b W (by simpa using h)).mono fun e w' ⟨he, hk⟩ => ⟨he, nleft_same h1 hk⟩
end
section
variable {lv cv : Value} {m : RNet} {W : World}
theorem qtake (i : Int) (h : RfIs W lv cv m) (hb : m.ta < 1152921504606846976) : Calls Try.prog 25 #[rmV lv cv m, .int .i64 i] W fun e w' => ∃ lv' cv', e = .returned (.tuple #[rmV lv' cv' (rtakeN m i), pkV (if hasI m.L.length i = true then atL m.L i else pk0), .bool (hasI m.L.length i)]) ∧ RfIs w' lv' cv' (rtakeN m i) ∧ Keep (fun _ => False) W w' := by
  by_cases hh : hasI m.L.length i = true
  · obtain ⟨e1, e2⟩ := hasI_nat hh
    have := rtake_some lv cv m i.toNat e2 W h hb
    rw [← e1] at this
    rw [if_pos hh, hh, rtakeN, if_pos hh, atL_get e2 i rfl]
    exact this.mono fun e w' ⟨lv', he, hr, hk⟩ => ⟨lv', cv, he, hr, hk⟩
  · rw [if_neg hh, rtakeN, if_neg hh]
    have h' : hasI m.L.length i = false := by simpa using hh
    rw [h']
    exact (rtake_none lv cv m i W h h').mono fun e w' ⟨he, hk⟩ => ⟨lv, cv, he, h.keep hk, hk⟩
theorem qdrop (i : Int) (h : RfIs W lv cv m) (hb : m.lo < 1152921504606846976) : Calls Try.prog 26 #[rmV lv cv m, .int .i64 i] W fun e w' => ∃ lv' cv', e = .returned (.tuple #[rmV lv' cv' (rdropN m i), .bool (hasI m.L.length i)]) ∧ RfIs w' lv' cv' (rdropN m i) ∧ Keep (fun _ => False) W w' := by
  by_cases hh : hasI m.L.length i = true
  · obtain ⟨e1, e2⟩ := hasI_nat hh
    have := rdrop_some lv cv m i.toNat e2 W h hb
    rw [← e1] at this
    rw [hh, rdropN, if_pos hh]
    exact this.mono fun e w' ⟨lv', he, hr, hk⟩ => ⟨lv', cv, he, hr, hk⟩
  · rw [rdropN, if_neg hh]
    have h' : hasI m.L.length i = false := by simpa using hh
    rw [h']
    exact (rdrop_none lv cv m i W h h').mono fun e w' ⟨he, hk⟩ => ⟨lv, cv, he, h.keep hk, hk⟩
theorem qdbl (i : Int) (h : RfIs W lv cv m) (hb : m.se < 1152921504606846976) : Calls Try.prog 27 #[rmV lv cv m, .int .i64 i] W fun e w' => ∃ lv' cv', e = .returned (.tuple #[rmV lv' cv' (rdblN m i), .bool (hasI m.L.length i && decide (m.L.length < 4096))]) ∧ RfIs w' lv' cv' (rdblN m i) ∧ Keep (fun _ => False) W w' := by
  by_cases hh : hasI m.L.length i = true
  · obtain ⟨e1, e2⟩ := hasI_nat hh
    by_cases hl : m.L.length < 4096
    · have := rdouble_some lv cv m i.toNat e2 W h hl hb
      rw [← e1] at this
      rw [hh, rdblN, if_pos ⟨hh, hl⟩, atL_get e2 i rfl, decide_eq_true hl]
      exact this.mono fun e w' ⟨lv', he, hr, hk⟩ => ⟨lv', cv, he, hr, hk⟩
    · have := rdouble_full lv cv m i.toNat e2 W h hl
      rw [← e1] at this
      rw [rdblN, if_neg (fun e => hl e.2), decide_eq_false hl, Bool.and_false]
      exact this.mono fun e w' ⟨he, hk⟩ => ⟨lv, cv, he, h.keep hk, hk⟩
  · rw [rdblN, if_neg (fun e => hh e.1)]
    have h' : hasI m.L.length i = false := by simpa using hh
    rw [h', Bool.false_and]
    exact (rdouble_none lv cv m i W h h').mono fun e w' ⟨he, hk⟩ => ⟨lv, cv, he, h.keep hk, hk⟩
theorem qcut (a b : Int) (h : RfIs W lv cv m) (hb : m.lo + 4096 < 1152921504606846976) (hc : m.cs.length < 100000) : Calls Try.prog 28 #[rmV lv cv m, .int .i64 a, .int .i64 b] W fun e w' => ∃ lv' cv', e = .returned (.tuple #[rmV lv' cv' (rcutN m a b), .int .i64 (rcutX m a b)]) ∧ RfIs w' lv' cv' (rcutN m a b) ∧ Keep (fun _ => False) W w' := by
  by_cases hh : two a b = true
  · rw [rcutN, if_pos hh, rcutX, if_pos hh]
    exact rcut_some lv cv m a b W h hh hb hc
  · rw [rcutN, if_neg hh, rcutX, if_neg hh]
    exact (rcut_none lv cv m a b W h (by simpa using hh)).mono fun e w' ⟨he, hk⟩ => ⟨lv, cv, he, h.keep hk, hk⟩
end
end Go.Proofs.Ytfcchmjofejkhaa
