/- The walk of the law ConfReach. -/
import Derived.Test.YtghcijliknahdabConfG
namespace Go.Proofs.Ytghcijliknahdab
open Go.RowKit Go.Maps
set_option linter.unusedVariables false
set_option linter.unusedSimpArgs false

theorem allL_len (x : Nat) : (allL x).length ≤ 7 := Nat.le_trans (List.length_filter_le _ _) (by decide)
/-- the way's first part: what of b is below n was added -/
def W1 (a b l : List Int) (n : Nat) : Prop := areM l = true ∧ ∀ k : Nat, k < 7 → hasI (k : Int) l = (hasI (k : Int) a || (hasI (k : Int) b && decide (k < n)))
/-- its second part: what is not of b, and below n, was dropped -/
def W2 (a b l : List Int) (n : Nat) : Prop := areM l = true ∧ ∀ k : Nat, k < 7 → hasI (k : Int) l = ((hasI (k : Int) a || hasI (k : Int) b) && (hasI (k : Int) b || decide (n ≤ k)))
theorem W1.stay {a b l : List Int} {n : Nat} (h : W1 a b l n) (hn : n < 7) (hc : hasI (n : Int) b = false ∨ hasI (n : Int) l = true) : W1 a b l (n + 1) := by
  refine ⟨h.1, fun k hk => ?_⟩
  rw [h.2 k hk]
  by_cases e : k = n
  · subst e
    rcases hc with hc | hc
    · rw [hc]; simp
    · rw [h.2 k hk] at hc
      rw [hc]
      rw [decide_eq_true (show k < k + 1 by omega)]
      rw [decide_eq_false (show ¬ k < k by omega)] at hc
      simp at hc
      simp [hc]
  · have e2 : decide (k < n) = decide (k < n + 1) := by by_cases q : k < n <;> simp [q] <;> omega
    rw [e2]
theorem W1.add {a b l : List Int} {n : Nat} (h : W1 a b l n) (hn : n < 7) (h1 : hasI (n : Int) b = true) (h2 : hasI (n : Int) l = false) : W1 a b (addL l (n : Int)) (n + 1) := by
  refine ⟨(((reach_at h.1).2 n (nd_mem (nodes_nd hn))).1 h2).2, fun k hk => ?_⟩
  rw [hasI_add (nodes_nd hk), h.2 k hk]
  by_cases e : k = n
  · subst e; simp [h1]
  · have e1 : ((k : Int) == (n : Int)) = false := by rw [beq_eq_false_iff_ne]; omega
    have e2 : decide (k < n) = decide (k < n + 1) := by by_cases q : k < n <;> simp [q] <;> omega
    rw [e1, e2, Bool.false_or]
theorem W1.to {a b l : List Int} (h : W1 a b l 7) : W2 a b l 0 := by
  refine ⟨h.1, fun k hk => ?_⟩
  rw [h.2 k hk, decide_eq_true hk]
  simp
theorem W2.stay {a b l : List Int} {n : Nat} (h : W2 a b l n) (hn : n < 7) (hc : hasI (n : Int) b = true ∨ hasI (n : Int) l = false) : W2 a b l (n + 1) := by
  refine ⟨h.1, fun k hk => ?_⟩
  rw [h.2 k hk]
  by_cases e : k = n
  · subst e
    rcases hc with hc | hc
    · rw [hc]; simp
    · have hq := h.2 k hk
      rw [hc] at hq
      rw [← hq]
      rw [decide_eq_false (show ¬ k + 1 ≤ k by omega)]
      rw [decide_eq_true (show k ≤ k by omega)] at hq
      simp at hq
      simp [hq]
  · have e2 : decide (n ≤ k) = decide (n + 1 ≤ k) := by by_cases q : n ≤ k <;> simp [q] <;> omega
    rw [e2]
theorem W2.len {a b l : List Int} {n : Nat} (h : W2 a b l n) (hn : n < 7) (hb : areM b = true) (h1 : hasI (n : Int) b = false) (h2 : hasI (n : Int) l = true) : ¬ l.length = 1 := by
  intro hl
  have hbl := areM_len hb
  obtain ⟨x, r, rfl⟩ : ∃ x r, b = x :: r := by cases b with | nil => simp at hbl | cons x r => exact ⟨x, r, rfl⟩
  have hx := areM_bd hb x (by simp)
  obtain ⟨k, rfl⟩ : ∃ k : Nat, x = (k : Int) := ⟨x.toNat, by omega⟩
  have hkb : hasI (k : Int) ((k : Int) :: r) = true := hasI_iff.2 (by simp)
  have hkl := h.2 k (by omega)
  rw [hkb] at hkl
  simp at hkl
  obtain ⟨y, rfl⟩ := List.length_eq_one_iff.1 hl
  have e1 := hasI_iff.1 h2
  have e2 := hasI_iff.1 hkl
  simp at e1 e2
  rw [e1, ← e2, hkb] at h1
  cases h1
theorem W2.drop {a b l : List Int} {n : Nat} (h : W2 a b l n) (hn : n < 7) (h1 : hasI (n : Int) b = false) (h2 : hasI (n : Int) l = true) (h3 : ¬ l.length = 1) : W2 a b (dropL l (n : Int)) (n + 1) := by
  refine ⟨(((reach_at h.1).2 n (nd_mem (nodes_nd hn))).2 h2 h3).2, fun k hk => ?_⟩
  rw [hasI_drop, h.2 k hk]
  by_cases e : k = n
  · subst e
    rw [h1, decide_eq_false (show ¬ k + 1 ≤ k by omega)]
    simp
  · have e1 : ((k : Int) == (n : Int)) = false := by rw [beq_eq_false_iff_ne]; omega
    have e2 : decide (n ≤ k) = decide (n + 1 ≤ k) := by by_cases q : n ≤ k <;> simp [q] <;> omega
    rw [e1, e2]
    simp
theorem W2.done {a b l : List Int} (h : W2 a b l 7) (hb : areM b = true) : l = b := by
  refine same_nodes h.1 hb fun k hk => ?_
  rw [h.2 k hk, decide_eq_false (show ¬ 7 ≤ k by omega)]
  cases hasI (k : Int) b <;> simp
set_option maxRecDepth 100000 in
set_option maxHeartbeats 2000000 in
theorem confReach_walk (x y : Int) (w : World) (_hx : (Lit.int .i64 x).wf = true) (_hy : (Lit.int .i64 y).wf = true) :
    Calls Try.prog 4 #[.int .i64 x, .int .i64 y] w fun e w' => e = .returned (.bool true) ∧ Below w.heap.size w w' := by
  have ex := i64_and127 x
  have ey := i64_and127 y
  obtain ⟨f, hf⟩ : ∃ f : Nat, x % 128 = (f : Int) := ⟨(x % 128).toNat, by omega⟩
  obtain ⟨t, ht⟩ : ∃ t : Nat, y % 128 = (t : Int) := ⟨(y % 128).toNat, by omega⟩
  rw [hf] at ex
  rw [ht] at ey
  have hf128 : f < 128 := by omega
  have ht128 : t < 128 := by omega
  have A1 : Hid (Calls Try.prog 11 #[.int .i64 (f : Int)] w fun e w' => ∃ ad cap, e = .returned (.slice ad (allL f).length cap) ∧ Hid (IntsI w' (.slice ad (allL f).length cap) (allL f)) ∧ Hid (Below w.heap.size w w')) := (all_any f hf128 w).mono fun e w' ⟨v, he, ho, hb⟩ => by
    obtain ⟨ad, cap, rfl⟩ := ho.form
    exact ⟨ad, cap, he, ho.ints, hb⟩
  have A2 : Hid (∀ W, Calls Try.prog 11 #[.int .i64 (t : Int)] W fun e w' => ∃ ad cap, e = .returned (.slice ad (allL t).length cap) ∧ Hid (IntsI w' (.slice ad (allL t).length cap) (allL t)) ∧ Hid (Below W.heap.size W w')) := fun W => (all_any t ht128 W).mono fun e w' ⟨v, he, ho, hb⟩ => by
    obtain ⟨ad, cap, rfl⟩ := ho.form
    exact ⟨ad, cap, he, ho.ints, hb⟩
  have AW := hid (fun W => awake9 W)
  have CK : Hid (∀ W, Calls Try.prog 12 #[.slice none 0 0] W fun e w' => e = .returned (.int .i64 70) ∧ w' = W) := fun W => (ccheck_any _ [] W (ints_none W) (by decide)).mono fun e w' ⟨he, hw⟩ => ⟨by rw [he]; rfl, hw⟩
  have HAS : Hid (∀ (v : Value) (c : List Int) (n : Int) W, IntsI W v c → c.length ≤ 7 → Calls Try.prog 10 #[v, .int .i64 n] W fun e w' => e = .returned (.bool (hasI n c)) ∧ w' = W) := fun v c n W hv hc => rhas_any v c n W hv (by omega)
  have ADD : Hid (∀ (v : Value) (c : List Int) (n : Int) W, IntsI W v c → areM c = true → isNd n = true → hasI n c = false → Calls Try.prog 13 #[v, .int .i64 n] W fun e w' => ∃ v', e = .returned (.tuple #[v', .int .i64 0]) ∧ Hid (IntsI w' v' (addL c n)) ∧ Hid (Below W.heap.size W w')) := fun v c n W hv h1 h2 h3 => (cadd_any v c n W hv (by have := areM_len h1; omega)).mono fun e w' ⟨v', he, hi, hb, _⟩ => by
    obtain ⟨e1, e2⟩ := addE_ok h1 h2 h3
    exact ⟨v', by rw [he, e1], by rw [← e2]; exact hi, hb⟩
  have DRP : Hid (∀ (v : Value) (c : List Int) (n : Int) W, IntsI W v c → areM c = true → hasI n c = true → ¬ c.length = 1 → Calls Try.prog 14 #[v, .int .i64 n] W fun e w' => ∃ v', e = .returned (.tuple #[v', .int .i64 0]) ∧ Hid (IntsI w' v' (dropL c n)) ∧ Hid (Below W.heap.size W w')) := fun v c n W hv h1 h2 h3 => (cdrop_any v c n W hv (by have := areM_len h1; omega)).mono fun e w' ⟨v', he, hi, hb, _⟩ => by
    obtain ⟨e1, e2⟩ := dropE_ok h1 h2 h3
    exact ⟨v', by rw [he, e1], by rw [← e2]; exact hi, hb⟩
  have NR : Hid (∀ (v v' : Value) (c c' : List Int) W, IntsI W v c → IntsI W v' c' → areM c = true → areM c' = true → Calls Try.prog 8 #[v, v'] W fun e w' => e = .returned (.bool (nearC c c')) ∧ w' = W) := fun v v' c c' W h1 h2 h3 h4 => cnear_any v v' c c' W h1 h2 (by have := areM_len h3; omega) (by have := areM_len h4; omega)
  have IN : Hid (∀ (x y : Value) (c : List Int) W, IntsI W x c → IntsI W y c → c.length ≤ 7 → Calls Try.prog 7 #[x, y] W fun e w' => e = .returned (.bool true) ∧ Below W.heap.size W w') := fun x y c W hx hy hc => (ints_any x y c c W hx hy (by omega)).mono fun e w' ⟨he, hb⟩ => ⟨by rw [he, eqI_refl], hb⟩
  have LA := hid (allL_len f)
  have LB := hid (allL_len t)
  have MA := hid (fun h => allL_areM (x := f) hf128 h)
  have MB := hid (fun h => allL_areM (x := t) ht128 h)
  generalize allL f = a at *
  generalize allL t = b at *
  clear hf ht hf128 ht128 _hx _hy
  go_enter Try.func4, Try.ntmps4
  go_wp2_with fail
  refine A1.out.mono ?_
  rintro e w1 ⟨ad1, cap1, rfl, I1, B1⟩
  go_wp2_with fail
  refine (A2.out _).mono ?_
  rintro e w2 ⟨ad2, cap2, rfl, I2, k2⟩
  have I1' := hid (I1.out.next k2.out)
  have B2 := hid (below_on B1.out k2.out)
  clear A1 A2 ex ey I1 B1 k2
  by_cases za : a.length = 0
  · have hz : ((a.length : Int) == 0) = true := by rw [za]; rfl
    clear za HAS ADD DRP NR IN MA MB I1' I2
    go_wp2_with fail
    refine (AW.out _).mono ?_
    rintro e w3 ⟨rfl, k3⟩
    have B3 := hid (below_on B2.out k3)
    clear k3 B2
    go_wp2_with fail
    refine (CK.out _).mono ?_
    rintro e w4 ⟨rfl, rfl⟩
    go_wp2
    go_ret
    exact ⟨rfl, B3.out⟩
  have hza : ((a.length : Int) == 0) = false := by rw [beq_eq_false_iff_ne]; omega
  by_cases zb : b.length = 0
  · have hz : ((b.length : Int) == 0) = true := by rw [zb]; rfl
    clear za zb HAS ADD DRP NR IN MA MB I1' I2
    go_wp2_with fail
    refine (AW.out _).mono ?_
    rintro e w3 ⟨rfl, k3⟩
    have B3 := hid (below_on B2.out k3)
    clear k3 B2
    go_wp2_with fail
    refine (CK.out _).mono ?_
    rintro e w4 ⟨rfl, rfl⟩
    go_wp2
    go_ret
    exact ⟨rfl, B3.out⟩
  have hzb : ((b.length : Int) == 0) = false := by rw [beq_eq_false_iff_ne]; omega
  have HMA := hid (MA.out za)
  have HMB := hid (MB.out zb)
  clear za zb MA MB CK
  go_wp2
  clear hza hzb
  go_loopw [7, 8] (fun v i wr => ∃ (k : Nat) (c : List Int), k ≤ 7 ∧ i = .int .i64 (k : Int) ∧ Hid (IntsI wr v c) ∧ Hid (W1 a b c k) ∧ Hid (IntsI wr (.slice ad2 b.length cap2) b) ∧ Hid (Below w.heap.size w wr)) (fun _ i _ => 7 - (intOf i).toNat)
  case atStart => exact ⟨0, a, by omega, rfl, I1', ⟨HMA.out, fun k hk => by simp⟩, I2, B2⟩
  case round =>
    clear I1' I2 B2
    rename_i v wr
    obtain ⟨k, c, hk, rfl, IC, HW, IB, BB⟩ := hrel
    by_cases hlt : k < 7
    · have hk7 : (k : Int) < 7 := by omega
      have H1 := hid (HAS.out _ b (k : Int) _ IB.out LB.out)
      have LC : Hid (c.length ≤ 7) := (areM_len HW.out.1).2
      have H2 := hid (HAS.out _ c (k : Int) _ IC.out LC.out)
      cases hb : hasI (k : Int) b
      · rw [hb] at H1
        have HW2 := hid (HW.out.stay hlt (.inl hb))
        clear H2 HW hb ADD DRP NR IN HAS
        go_wp2_with fail
        refine H1.out.mono ?_
        rintro e w3 ⟨rfl, rfl⟩
        go_wp2
        exact ⟨⟨k + 1, c, by omega, by go_num, IC, HW2, IB, BB⟩, by simp [intOf]; omega⟩
      · rw [hb] at H1
        cases hc : hasI (k : Int) c
        · rw [hc] at H2
          have AD := hid (ADD.out _ c (k : Int) _ IC.out HW.out.1 (nodes_nd hlt) hc)
          have HW2 := hid (HW.out.add hlt hb hc)
          have HNE := hid (((reach_at HW.out.1).2 (k : Int) (nd_mem (nodes_nd hlt))).1 hc)
          have HCM := hid HW.out.1
          have HNS := hid (near_self c)
          clear HW hb hc DRP IN HAS ADD
          go_wp2_with fail
          refine H1.out.mono ?_
          rintro e w3 ⟨rfl, rfl⟩
          go_wp2_with fail
          refine H2.out.mono ?_
          rintro e w3 ⟨rfl, rfl⟩
          go_wp2_with fail
          refine AD.out.mono ?_
          rintro e w4 ⟨v', rfl, IC4, k4⟩
          have IC' := hid (IC.out.next k4.out)
          have IB' := hid (IB.out.next k4.out)
          have BB' := hid (below_on BB.out k4.out)
          have N1 := hid (NR.out _ _ c (addL c (k : Int)) _ IC'.out IC4.out HCM.out HNE.out.2)
          rw [HNE.out.1] at N1
          have N2 := hid (NR.out _ _ c c _ IC'.out IC'.out HCM.out HCM.out)
          rw [HNS.out] at N2
          clear AD H1 H2 IC IB BB k4 NR HNE HCM HNS
          go_wp2_with fail
          refine N1.out.mono ?_
          rintro e w5 ⟨rfl, rfl⟩
          go_wp2_with fail
          refine N2.out.mono ?_
          rintro e w5 ⟨rfl, rfl⟩
          go_wp2
          exact ⟨⟨k + 1, addL c (k : Int), by omega, by go_num, IC4, HW2, IB', BB'⟩, by simp [intOf]; omega⟩
        · rw [hc] at H2
          have HW2 := hid (HW.out.stay hlt (.inr hc))
          clear HW hb hc ADD DRP NR IN HAS
          go_wp2_with fail
          refine H1.out.mono ?_
          rintro e w3 ⟨rfl, rfl⟩
          go_wp2_with fail
          refine H2.out.mono ?_
          rintro e w3 ⟨rfl, rfl⟩
          go_wp2
          exact ⟨⟨k + 1, c, by omega, by go_num, IC, HW2, IB, BB⟩, by simp [intOf]; omega⟩
    · have hk9 : k = 7 := by omega
      have HW0 : Hid (W2 a b c 0) := (hk9 ▸ HW.out : W1 a b c 7).to
      have hdk : decide ((k : Int) < 7) = false := decide_eq_false (by omega)
      have hdk2 : decide (k < 7) = false := decide_eq_false (by omega)
      clear HW ADD hk hlt hk9
      go_wp2
      clear hdk hdk2
      go_loopw [7, 11] (fun v i wr => ∃ (k : Nat) (c : List Int), k ≤ 7 ∧ i = .int .i64 (k : Int) ∧ Hid (IntsI wr v c) ∧ Hid (W2 a b c k) ∧ Hid (IntsI wr (.slice ad2 b.length cap2) b) ∧ Hid (Below w.heap.size w wr)) (fun _ i _ => 7 - (intOf i).toNat)
      case atStart => exact ⟨0, c, by omega, rfl, IC, HW0, IB, BB⟩
      case round =>
        clear IC HW0 IB BB
        obtain ⟨k, c, hk, rfl, IC, HW, IB, BB⟩ := hrel
        by_cases hlt : k < 7
        · have hk7 : (k : Int) < 7 := by omega
          have H1 := hid (HAS.out _ b (k : Int) _ IB.out LB.out)
          have LC : Hid (c.length ≤ 7) := (areM_len HW.out.1).2
          have H2 := hid (HAS.out _ c (k : Int) _ IC.out LC.out)
          cases hb : hasI (k : Int) b
          · rw [hb] at H1
            cases hc : hasI (k : Int) c
            · rw [hc] at H2
              have HW2 := hid (HW.out.stay hlt (.inr hc))
              clear HW hb hc DRP NR IN HAS
              go_wp2_with fail
              refine H1.out.mono ?_
              rintro e w3 ⟨rfl, rfl⟩
              go_wp2_with fail
              refine H2.out.mono ?_
              rintro e w3 ⟨rfl, rfl⟩
              go_wp2
              exact ⟨⟨k + 1, c, by omega, by go_num, IC, HW2, IB, BB⟩, by simp [intOf]; omega⟩
            · rw [hc] at H2
              have h1 := HW.out.len hlt HMB.out hb hc
              have DR := hid (DRP.out _ c (k : Int) _ IC.out HW.out.1 hc h1)
              have HW2 := hid (HW.out.drop hlt hb hc h1)
              have HNE := hid (((reach_at HW.out.1).2 (k : Int) (nd_mem (nodes_nd hlt))).2 hc h1)
              have HCM := hid HW.out.1
              clear HW hb hc IN HAS DRP h1
              go_wp2_with fail
              refine H1.out.mono ?_
              rintro e w3 ⟨rfl, rfl⟩
              go_wp2_with fail
              refine H2.out.mono ?_
              rintro e w3 ⟨rfl, rfl⟩
              go_wp2_with fail
              refine DR.out.mono ?_
              rintro e w4 ⟨v', rfl, IC4, k4⟩
              have IC' := hid (IC.out.next k4.out)
              have IB' := hid (IB.out.next k4.out)
              have BB' := hid (below_on BB.out k4.out)
              have N1 := hid (NR.out _ _ (dropL c (k : Int)) c _ IC4.out IC'.out HNE.out.2 HCM.out)
              rw [HNE.out.1] at N1
              clear DR H1 H2 IC IB BB k4 NR HNE HCM
              go_wp2_with fail
              refine N1.out.mono ?_
              rintro e w5 ⟨rfl, rfl⟩
              go_wp2
              exact ⟨⟨k + 1, dropL c (k : Int), by omega, by go_num, IC4, HW2, IB', BB'⟩, by simp [intOf]; omega⟩
          · rw [hb] at H1
            have HW2 := hid (HW.out.stay hlt (.inl hb))
            clear H2 HW hb DRP NR IN HAS
            go_wp2_with fail
            refine H1.out.mono ?_
            rintro e w3 ⟨rfl, rfl⟩
            go_wp2
            exact ⟨⟨k + 1, c, by omega, by go_num, IC, HW2, IB, BB⟩, by simp [intOf]; omega⟩
        · have hk9 : k = 7 := by omega
          subst hk9
          have hcb : c = b := HW.out.done HMB.out
          subst hcb
          clear HW DRP NR HAS hk hlt
          go_wp2_with fail
          refine (AW.out _).mono ?_
          rintro e w3 ⟨rfl, k3⟩
          have IC3 := hid (IC.out.next k3)
          have IB3 := hid (IB.out.next k3)
          have B3 := hid (below_on BB.out k3)
          clear k3 IC IB BB AW
          go_wp2_with fail
          refine (IN.out _ _ _ _ IC3.out IB3.out LB.out).mono ?_
          rintro e w4 ⟨rfl, k4⟩
          have B4 := hid (below_on B3.out k4)
          clear k4 B3 IN
          go_wp2
          go_ret
          exact ⟨rfl, B4.out⟩
end Go.Proofs.Ytghcijliknahdab
