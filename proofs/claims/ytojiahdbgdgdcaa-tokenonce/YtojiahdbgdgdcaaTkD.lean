/- A token's place in a table: the program's search. -/
import Derived.Test.YtojiahdbgdgdcaaTkC
namespace Go.Proofs.Ytojiahdbgdgdcaa
open Go.RowKit Go.Maps
set_option linter.unusedVariables false
set_option linter.unusedSimpArgs false

/-- how many stand ahead of a token -/
def plH (l : List Hd) (t : ByteArray) : Nat := l.countP (fun h => bb h.tk t)
def hasH (l : List Hd) (t : ByteArray) : Bool := l.any (fun h => decide (h.tk = t))
theorem plH_le (l : List Hd) (t : ByteArray) : plH l t ≤ l.length := List.countP_le_length
theorem plH_at : ∀ (l : List Hd) (t : ByteArray) (i : Nat), i ≤ l.length → (∀ j (h : j < l.length), j < i → bb l[j].tk t = true) → (∀ j (h : j < l.length), i ≤ j → bb l[j].tk t = false) → plH l t = i
  | [], t, i, hi, _, _ => by simp at hi; simp [plH, hi]
  | a :: r, t, 0, _, _, h2 => by
    unfold plH
    rw [List.countP_eq_zero]
    intro x hx
    obtain ⟨j, hj, rfl⟩ := List.getElem_of_mem hx
    simp [h2 j hj (Nat.zero_le _)]
  | a :: r, t, i + 1, hi, h1, h2 => by
    have ha : bb a.tk t = true := h1 0 (by simp) (Nat.succ_pos _)
    unfold plH
    have ha' : (fun h : Hd => bb h.tk t) a = true := ha
    rw [List.countP_cons_of_pos (p := fun h : Hd => bb h.tk t) (a := a) (l := r) ha']
    have := plH_at r t i (by simpa using hi) (fun j hj hij => h1 (j + 1) (by simpa using hj) (by omega)) (fun j hj hij => h2 (j + 1) (by simpa using hj) (by omega))
    unfold plH at this
    rw [this]
theorem hasH_at {l : List Hd} {t : ByteArray} (hs : l.Pairwise (fun a b => bb a.tk b.tk = true)) {i : Nat} (h1 : ∀ j (h : j < l.length), j < i → bb l[j].tk t = true) (h2 : ∀ j (h : j < l.length), i ≤ j → bb l[j].tk t = false) : hasH l t = (if h : i < l.length then decide (l[i].tk = t) else false) := by
  rw [Bool.eq_iff_iff]
  unfold hasH
  rw [List.any_eq_true]
  constructor
  · rintro ⟨x, hx, he⟩
    simp only [decide_eq_true_eq] at he
    obtain ⟨j, hj, rfl⟩ := List.getElem_of_mem hx
    have hij : i ≤ j := Nat.le_of_not_lt fun h => bb_ne (h1 j hj h) he
    have hil : i < l.length := by omega
    rw [dif_pos hil, decide_eq_true_eq]
    rcases Nat.lt_or_eq_of_le hij with h | h
    · have h3 := List.pairwise_iff_getElem.1 hs i j hil hj h
      rw [he, h2 i hil (Nat.le_refl _)] at h3
      cases h3
    · subst h; exact he
  · intro h
    by_cases hil : i < l.length
    · rw [dif_pos hil] at h
      exact ⟨l[i], List.getElem_mem hil, h⟩
    · rw [dif_neg hil] at h; cases h
set_option maxRecDepth 100000 in
set_option maxHeartbeats 2000000 in
theorem bsf_any (v : Value) (q : List Hd) (t : ByteArray) (w : World) (hv : HdI w v q) (hs : q.Pairwise (fun a b => bb a.tk b.tk = true)) (hl : q.length ≤ 64) : Calls Try.prog 45 #[v, .string t, .func (.func 46) #[] #[]] w fun e w' => e = .returned (.tuple #[.int .i64 (plH q t : Nat), .bool (hasH q t)]) ∧ Below w.heap.size w w' := by
  obtain ⟨ad, cap, rfl, hc⟩ := hv.form
  have HC := hid hc
  have HS := hid hs
  have CP := hid (fun x W => place1_any x t W)
  have HP : Hid (∀ i, i ≤ q.length → (∀ j (h : j < q.length), j < i → bb q[j].tk t = true) → (∀ j (h : j < q.length), i ≤ j → bb q[j].tk t = false) → plH q t = i ∧ hasH q t = (if h : i < q.length then decide (q[i].tk = t) else false)) := fun i hi h1 h2 => ⟨plH_at q t i hi h1 h2, hasH_at hs h1 h2⟩
  have hcf := enters_of Try.func46 (by kernel_rfl) rfl
  have I0 : Hid ((∀ j (h : j < q.length), j < 0 → bb q[j].tk t = true) ∧ (∀ j (h : j < q.length), q.length ≤ j → bb q[j].tk t = false)) := ⟨fun j h hj => by omega, fun j h hj => by omega⟩
  generalize plH q t = PN at *
  generalize hasH q t = PB at *
  clear hc hv hs
  go_enter Try.func45, Try.ntmps45
  go_wp2
  go_loopw [9, 10] (fun s9 s10 wr => ∃ lo hi : Nat, s9 = .int .i64 lo ∧ s10 = .int .i64 hi ∧ lo ≤ hi ∧ hi ≤ q.length ∧ Hid (Below w.heap.size w wr) ∧ Hid ((∀ j (h : j < q.length), j < lo → bb q[j].tk t = true) ∧ (∀ j (h : j < q.length), hi ≤ j → bb q[j].tk t = false))) (fun s9 s10 _ => (intOf s10).toNat - (intOf s9).toNat)
  case atStart => exact ⟨0, q.length, rfl, rfl, Nat.zero_le _, Nat.le_refl _, Below.refl _ _, I0⟩
  case round =>
    clear I0
    obtain ⟨lo, hi, rfl, rfl, hlh, hin, HB, HI⟩ := hrel
    by_cases hlt : lo < hi
    · have hm : (lo + hi) / 2 < q.length := by omega
      obtain ⟨b, off, rfl, hb, c0, c1, c2, c3⟩ := HC.out _ hm
      have d0 := (HB.out.cell (p := ⟨b, off + (lo + hi) / 2 * 4, none⟩) hb).trans c0
      have d1 := (HB.out.cell (p := ⟨b, off + (lo + hi) / 2 * 4 + 1, none⟩) hb).trans c1
      have d2 := (HB.out.cell (p := ⟨b, off + (lo + hi) / 2 * 4 + 2, none⟩) hb).trans c2
      have d3 := (HB.out.cell (p := ⟨b, off + (lo + hi) / 2 * 4 + 3, none⟩) hb).trans c3
      have CX : Hid (Calls Try.prog 46 #[.agg #[.string q[(lo + hi) / 2].tk, .string q[(lo + hi) / 2].su, .string q[(lo + hi) / 2].ou, .int .i64 q[(lo + hi) / 2].at_], .string t] wr fun e w' => e = .returned (.int .i64 (Lib.compareBytes q[(lo + hi) / 2].tk.data.toList t.data.toList)) ∧ Hid (Below w.heap.size w w')) := (CP.out q[(lo + hi) / 2] wr).mono fun e w' ⟨he, hb⟩ => ⟨he, below_on HB.out hb⟩
      have HCB := hid (cmp_bb q[(lo + hi) / 2].tk t)
      have HUP : Hid (bb q[(lo + hi) / 2].tk t = true → (∀ j (h : j < q.length), j < (lo + hi) / 2 + 1 → bb q[j].tk t = true) ∧ (∀ j (h : j < q.length), hi ≤ j → bb q[j].tk t = false)) := fun h => ⟨fun j hj hjm => by
        rcases Nat.lt_or_eq_of_le (Nat.le_of_lt_succ hjm) with h2 | h2
        · exact bb_trans (List.pairwise_iff_getElem.1 HS.out j _ hj hm h2) h
        · subst h2; exact h, HI.out.2⟩
      have HDN : Hid (bb q[(lo + hi) / 2].tk t = false → (∀ j (h : j < q.length), j < lo → bb q[j].tk t = true) ∧ (∀ j (h : j < q.length), (lo + hi) / 2 ≤ j → bb q[j].tk t = false)) := fun h => ⟨HI.out.1, fun j hj hjm => by
        rcases Nat.lt_or_eq_of_le hjm with h2 | h2
        · cases h3 : bb q[j].tk t with
          | false => rfl
          | true => rw [bb_trans (List.pairwise_iff_getElem.1 HS.out _ j hm hj h2) h3] at h; cases h
        · subst h2; exact h⟩
      clear c0 c1 c2 c3 hb HC HS HP CP HI HB
      generalize q[(lo + hi) / 2] = y at *
      obtain ⟨tk, su, ou, at_⟩ := y
      simp only at *
      have hw1 : wrap64 ((lo : Int) + (hi : Int)) = ((lo + hi : Nat) : Int) := by rw [IntWalk.wrap64_in _ (by omega)]; omega
      have hmi : (((lo + hi) / 2 : Nat) : Int) < (q.length : Int) := by omega
      have hwk : wrap64 ((((lo + hi) / 2 : Nat) : Int) + 1) = (((lo + hi) / 2 + 1 : Nat) : Int) := by rw [IntWalk.wrap64_in _ (by omega)]; omega
      generalize Lib.compareBytes _ _ = cm at *
      cases hbb : bb tk t
      · have hcm : decide (cm < 0) = false := by rw [HCB.out, hbb]
        have H2 := hid (HDN.out hbb)
        clear HCB HUP HDN hbb hm
        go_wp2_with fail
        refine CX.out.mono ?_
        rintro e w1 ⟨rfl, B1⟩
        clear CX d0 d1 d2 d3
        go_wp2
        exact ⟨⟨lo, (lo + hi) / 2, rfl, by first | rfl | simp, by omega, by omega, B1, H2⟩, by simp [intOf]; omega⟩
      · have hcm : decide (cm < 0) = true := by rw [HCB.out, hbb]
        have H2 := hid (HUP.out hbb)
        clear HCB HUP HDN hbb hm
        go_wp2_with fail
        refine CX.out.mono ?_
        rintro e w1 ⟨rfl, B1⟩
        clear CX d0 d1 d2 d3
        go_wp2
        exact ⟨⟨(lo + hi) / 2 + 1, hi, by first | rfl | simp, rfl, by omega, by omega, B1, H2⟩, by simp [intOf]; omega⟩
    · have he : lo = hi := by omega
      subst he
      obtain ⟨hp1, hp2⟩ := HP.out lo hin HI.out.1 HI.out.2
      have hp3 := hp1.symm
      subst hp3
      clear HP HI HS hlh hp1
      by_cases hlq : lo < q.length
      · obtain ⟨b, off, rfl, hb, c0, c1, c2, c3⟩ := HC.out lo hlq
        have d0 := (HB.out.cell (p := ⟨b, off + lo * 4, none⟩) hb).trans c0
        have d1 := (HB.out.cell (p := ⟨b, off + lo * 4 + 1, none⟩) hb).trans c1
        have d2 := (HB.out.cell (p := ⟨b, off + lo * 4 + 2, none⟩) hb).trans c2
        have d3 := (HB.out.cell (p := ⟨b, off + lo * 4 + 3, none⟩) hb).trans c3
        have CX : Hid (Calls Try.prog 46 #[.agg #[.string q[lo].tk, .string q[lo].su, .string q[lo].ou, .int .i64 q[lo].at_], .string t] wr fun e w' => e = .returned (.int .i64 (Lib.compareBytes q[lo].tk.data.toList t.data.toList)) ∧ Hid (Below w.heap.size w w')) := (CP.out q[lo] wr).mono fun e w' ⟨he, hb⟩ => ⟨he, below_on HB.out hb⟩
        have hcz := cmp_bz q[lo].tk t
        rw [dif_pos hlq, ← hcz] at hp2
        have HP2 := hid hp2
        clear hp2
        have hk1 : (lo : Int) < (q.length : Int) := by omega
        have hk0 : (0 : Int) ≤ (lo : Int) := by omega
        clear c0 c1 c2 c3 hb HC CP HB hcz
        generalize q[lo] = y at *
        obtain ⟨tk, su, ou, at_⟩ := y
        simp only at *
        generalize Lib.compareBytes _ _ = cm at *
        go_wp2_with fail
        refine CX.out.mono ?_
        rintro e w1 ⟨rfl, B1⟩
        clear CX d0 d1 d2 d3
        go_wp2
        go_ret2
        exact ⟨by rw [HP2.out]; rfl, B1.out⟩
      · rw [dif_neg hlq] at hp2
        subst hp2
        have hd : decide ((lo : Int) < (q.length : Int)) = false := decide_eq_false (by omega)
        have hd2 : decide (lo < q.length) = false := decide_eq_false hlq
        clear HC CP
        go_wp2
        go_ret2
        exact ⟨by first | rfl | simp, HB.out⟩
set_option maxRecDepth 100000 in
theorem place15_any (v : Value) (q : List Hd) (t : ByteArray) (w : World) (hv : HdI w v q) (hs : q.Pairwise (fun a b => bb a.tk b.tk = true)) (hl : q.length ≤ 64) : Calls Try.prog 22 #[v, .string t] w fun e w' => e = .returned (.tuple #[.int .i64 (plH q t : Nat), .bool (hasH q t)]) ∧ Below w.heap.size w w' := by
  have H := hid (bsf_any v q t w hv hs hl)
  generalize plH q t = PN at *
  generalize hasH q t = PB at *
  clear hv hs
  go_enter Try.func22, Try.ntmps22
  go_wp2_with fail
  refine H.out.mono ?_
  rintro e w1 ⟨rfl, b1⟩
  go_wp2
  go_ret2
  exact ⟨rfl, b1⟩
end Go.Proofs.Ytojiahdbgdgdcaa
