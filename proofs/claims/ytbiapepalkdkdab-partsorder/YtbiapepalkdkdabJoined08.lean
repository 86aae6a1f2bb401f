/- Joined: A part's place among parts: the program's search. Lists that are parts: their numbers rise, there are at most a hundred; a part's place by the list alone. Picks in memory; which rise; which parts they name. What is put together of parts: bounds, and that picks that rise name parts in their order. -/
import Derived.Test.YtbiapepalkdkdabJoined07
import Derived.Test.YtbiapepalkdkdabJoined03
import Derived.Shelf.Abstract
namespace Go.Proofs.Ytbiapepalkdkdab
open Go.RowKit Go.Maps
set_option linter.unusedVariables false
set_option linter.unusedSimpArgs false

def lb (a b : Int) : Bool := decide (a < b)
theorem lb_ne {a b : Int} (h : lb a b = true) : ¬ a = b := by have := of_decide_eq_true h; omega
theorem lb_trans {a b c : Int} (h : lb a b = true) (k : lb b c = true) : lb a c = true := by
  have := of_decide_eq_true h
  have := of_decide_eq_true k
  exact decide_eq_true (by omega)
def cmpI (x y : Int) : Int := if x < y then -1 else if y < x then 1 else 0
theorem cmp_lb (x y : Int) : decide (cmpI x y < 0) = lb x y := by
  unfold cmpI lb
  by_cases h : x < y
  · simp [h]
  · by_cases k : y < x <;> simp [h, k]
theorem cmp_lz (x y : Int) : (cmpI x y == 0) = decide (x = y) := by
  rw [Bool.eq_iff_iff, beq_iff_eq, decide_eq_true_eq]
  unfold cmpI
  by_cases h : x < y
  · simp [h]; omega
  · by_cases k : y < x
    · simp [h, k]; omega
    · simp [h, k]; omega
set_option maxRecDepth 100000 in
theorem isNaN_any (x : Int) (w : World) : Calls Try.prog 92 #[.int .i64 x] w fun e w' => e = .returned (.bool false) ∧ w' = w := by
  have g : (x == x) = true := by simp
  go_enter Try.func92, Try.ntmps92
  go_wp2
  go_ret
  first | exact ⟨rfl, rfl⟩ | simp
set_option maxRecDepth 100000 in
theorem cmpI_any (x y : Int) (w : World) : Calls Try.prog 70 #[.int .i64 x, .int .i64 y] w fun e w' => e = .returned (.int .i64 (cmpI x y)) ∧ w' = w := by
  have HN := hid (fun z => isNaN_any z w)
  have HX : Hid (cmpI x y = if x < y then -1 else if y < x then 1 else 0) := rfl
  generalize cmpI x y = R at *
  go_enter Try.func70, Try.ntmps70
  go_wp2_with fail
  refine (HN.out x).mono ?_
  rintro e w1 ⟨rfl, rfl⟩
  go_wp2_with fail
  refine (HN.out y).mono ?_
  rintro e w2 ⟨rfl, rfl⟩
  clear HN
  by_cases h : x < y
  · have g : decide (x < y) = true := decide_eq_true h
    have hr : R = -1 := by rw [HX.out, if_pos h]
    subst hr
    clear HX h
    go_wp2
    go_ret
    first | exact ⟨rfl, rfl⟩ | simp
  · have g : decide (x < y) = false := decide_eq_false h
    by_cases k : y < x
    · have g2 : decide (y < x) = true := decide_eq_true k
      have hr : R = 1 := by rw [HX.out, if_neg h, if_pos k]
      subst hr
      clear HX h k
      go_wp2
      go_ret
      first | exact ⟨rfl, rfl⟩ | simp
    · have g2 : decide (y < x) = false := decide_eq_false k
      have hr : R = 0 := by rw [HX.out, if_neg h, if_neg k]
      subst hr
      clear HX h k
      go_wp2
      go_ret
      first | exact ⟨rfl, rfl⟩ | simp
set_option maxRecDepth 100000 in
theorem tplace1_any (pa : Option Addr) (pn pc : Nat) (n sz : Int) (sum : ByteArray) (t : Int) (w : World) : Calls Try.prog 69 #[.agg #[.int .i64 n, .int .i64 sz, .string sum, .slice pa pn pc], .int .i64 t] w fun e w' => e = .returned (.int .i64 (cmpI n t)) ∧ Below w.heap.size w w' := by
  have HC := hid (fun W => cmpI_any n t W)
  have HB : Hid (∀ X, Below w.heap.size w (w.alloc X)) := fun X => below_al (Below.refl _ _) _
  generalize cmpI _ _ = R at *
  go_enter Try.func69, Try.ntmps69
  go_wp2_with fail
  refine (HC.out _).mono ?_
  rintro e w1 ⟨rfl, rfl⟩
  go_wp2
  go_ret
  exact ⟨rfl, HB.out _⟩
/-- how many stand ahead of a token -/
def plQ (l : List (Value × Pt)) (t : Int) : Nat := l.countP (fun h => lb h.2.n t)
def hasQ (l : List (Value × Pt)) (t : Int) : Bool := l.any (fun h => decide (h.2.n = t))
theorem plQ_le (l : List (Value × Pt)) (t : Int) : plQ l t ≤ l.length := List.countP_le_length
theorem plQ_at : ∀ (l : List (Value × Pt)) (t : Int) (i : Nat), i ≤ l.length → (∀ j (h : j < l.length), j < i → lb l[j].2.n t = true) → (∀ j (h : j < l.length), i ≤ j → lb l[j].2.n t = false) → plQ l t = i
  | [], t, i, hi, _, _ => by simp at hi; simp [plQ, hi]
  | a :: r, t, 0, _, _, h2 => by
    unfold plQ
    rw [List.countP_eq_zero]
    intro x hx
    obtain ⟨j, hj, rfl⟩ := List.getElem_of_mem hx
    simp [h2 j hj (Nat.zero_le _)]
  | a :: r, t, i + 1, hi, h1, h2 => by
    have ha : lb a.2.n t = true := h1 0 (by simp) (Nat.succ_pos _)
    unfold plQ
    have ha' : (fun h : Value × Pt => lb h.2.n t) a = true := ha
    rw [List.countP_cons_of_pos (p := fun h : Value × Pt => lb h.2.n t) (a := a) (l := r) ha']
    have := plQ_at r t i (by simpa using hi) (fun j hj hij => h1 (j + 1) (by simpa using hj) (by omega)) (fun j hj hij => h2 (j + 1) (by simpa using hj) (by omega))
    unfold plQ at this
    rw [this]
theorem hasQ_at {l : List (Value × Pt)} {t : Int} (hs : l.Pairwise (fun a b => lb a.2.n b.2.n = true)) {i : Nat} (h1 : ∀ j (h : j < l.length), j < i → lb l[j].2.n t = true) (h2 : ∀ j (h : j < l.length), i ≤ j → lb l[j].2.n t = false) : hasQ l t = (if h : i < l.length then decide (l[i].2.n = t) else false) := by
  rw [Bool.eq_iff_iff]
  unfold hasQ
  rw [List.any_eq_true]
  constructor
  · rintro ⟨x, hx, he⟩
    simp only [decide_eq_true_eq] at he
    obtain ⟨j, hj, rfl⟩ := List.getElem_of_mem hx
    have hij : i ≤ j := Nat.le_of_not_lt fun h => lb_ne (h1 j hj h) he
    have hil : i < l.length := by omega
    rw [dif_pos hil, decide_eq_true_eq]
    rcases Nat.lt_or_eq_of_le hij with h | h
    · have h3 := List.pairwise_iff_getElem.1 hs i j hil hj h
      rw [he, h2 i hil (Nat.le_refl _)] at h3
      cases h3
    · subst h; exact he
  · intro h
    by_cases hil : i < l.length
    · rw [dif_pos hil] at h
      exact ⟨l[i], List.getElem_mem hil, h⟩
    · rw [dif_neg hil] at h; cases h
set_option maxRecDepth 100000 in
set_option maxHeartbeats 2000000 in
theorem tbsf_any (v : Value) (q : List (Value × Pt)) (t : Int) (w : World) (hv : PtI w v q) (hs : q.Pairwise (fun a b => lb a.2.n b.2.n = true)) (hl : q.length ≤ 1048576) : Calls Try.prog 68 #[v, .int .i64 t, .func (.func 69) #[] #[]] w fun e w' => e = .returned (.tuple #[.int .i64 (plQ q t : Nat), .bool (hasQ q t)]) ∧ Below w.heap.size w w' := by
  obtain ⟨ad, cap, rfl, hc⟩ := hv.form
  have HC := hid hc
  have HS := hid hs
  have CP : Hid (∀ (y : Value × Pt) W, (∃ a c, y.1 = .slice a y.2.ps.length c) → Calls Try.prog 69 #[.agg #[.int .i64 y.2.n, .int .i64 y.2.sz, .string y.2.sum, y.1], .int .i64 t] W fun e w' => e = .returned (.int .i64 (cmpI y.2.n t)) ∧ Below W.heap.size W w') := fun y W ⟨a, c, e⟩ => by rw [e]; exact tplace1_any a _ c _ _ _ t W
  have HP : Hid (∀ i, i ≤ q.length → (∀ j (h : j < q.length), j < i → lb q[j].2.n t = true) → (∀ j (h : j < q.length), i ≤ j → lb q[j].2.n t = false) → plQ q t = i ∧ hasQ q t = (if h : i < q.length then decide (q[i].2.n = t) else false)) := fun i hi h1 h2 => ⟨plQ_at q t i hi h1 h2, hasQ_at hs h1 h2⟩
  have hcf := enters_of Try.func69 (by kernel_rfl) rfl
  have I0 : Hid ((∀ j (h : j < q.length), j < 0 → lb q[j].2.n t = true) ∧ (∀ j (h : j < q.length), q.length ≤ j → lb q[j].2.n t = false)) := ⟨fun j h hj => by omega, fun j h hj => by omega⟩
  generalize plQ q t = PN at *
  generalize hasQ q t = PB at *
  clear hc hv hs
  go_enter Try.func68, Try.ntmps68
  go_wp2
  go_loopw [9, 10] (fun s9 s10 wr => ∃ lo hi : Nat, s9 = .int .i64 lo ∧ s10 = .int .i64 hi ∧ lo ≤ hi ∧ hi ≤ q.length ∧ Hid (Below w.heap.size w wr) ∧ Hid ((∀ j (h : j < q.length), j < lo → lb q[j].2.n t = true) ∧ (∀ j (h : j < q.length), hi ≤ j → lb q[j].2.n t = false))) (fun s9 s10 _ => (intOf s10).toNat - (intOf s9).toNat)
  case atStart => exact ⟨0, q.length, rfl, rfl, Nat.zero_le _, Nat.le_refl _, Below.refl _ _, I0⟩
  case round =>
    clear I0
    obtain ⟨lo, hi, rfl, rfl, hlh, hin, HB, HI⟩ := hrel
    by_cases hlt : lo < hi
    · have hm : (lo + hi) / 2 < q.length := by omega
      obtain ⟨b, off, rfl, hb, c0, c1, c2, c3, hp⟩ := HC.out _ hm
      have d0 := (HB.out.cell (p := ⟨b, off + (lo + hi) / 2 * 4, none⟩) hb).trans c0
      have d1 := (HB.out.cell (p := ⟨b, off + (lo + hi) / 2 * 4 + 1, none⟩) hb).trans c1
      have d2 := (HB.out.cell (p := ⟨b, off + (lo + hi) / 2 * 4 + 2, none⟩) hb).trans c2
      have d3 := (HB.out.cell (p := ⟨b, off + (lo + hi) / 2 * 4 + 3, none⟩) hb).trans c3
      have CX : Hid (Calls Try.prog 69 #[.agg #[.int .i64 q[(lo + hi) / 2].2.n, .int .i64 q[(lo + hi) / 2].2.sz, .string q[(lo + hi) / 2].2.sum, q[(lo + hi) / 2].1], .int .i64 t] wr fun e w' => e = .returned (.int .i64 (cmpI q[(lo + hi) / 2].2.n t)) ∧ Hid (Below w.heap.size w w')) := (CP.out q[(lo + hi) / 2] wr hp.sl).mono fun e w' ⟨he, hb⟩ => ⟨he, below_on HB.out hb⟩
      have HCB := hid (cmp_lb q[(lo + hi) / 2].2.n t)
      have HUP : Hid (lb q[(lo + hi) / 2].2.n t = true → (∀ j (h : j < q.length), j < (lo + hi) / 2 + 1 → lb q[j].2.n t = true) ∧ (∀ j (h : j < q.length), hi ≤ j → lb q[j].2.n t = false)) := fun h => ⟨fun j hj hjm => by
        rcases Nat.lt_or_eq_of_le (Nat.le_of_lt_succ hjm) with h2 | h2
        · exact lb_trans (List.pairwise_iff_getElem.1 HS.out j _ hj hm h2) h
        · subst h2; exact h, HI.out.2⟩
      have HDN : Hid (lb q[(lo + hi) / 2].2.n t = false → (∀ j (h : j < q.length), j < lo → lb q[j].2.n t = true) ∧ (∀ j (h : j < q.length), (lo + hi) / 2 ≤ j → lb q[j].2.n t = false)) := fun h => ⟨HI.out.1, fun j hj hjm => by
        rcases Nat.lt_or_eq_of_le hjm with h2 | h2
        · cases h3 : lb q[j].2.n t with
          | false => rfl
          | true => rw [lb_trans (List.pairwise_iff_getElem.1 HS.out _ j hm hj h2) h3] at h; cases h
        · subst h2; exact h⟩
      clear c0 c1 c2 c3 hb HC HS HP CP HI HB
      obtain ⟨pa, pc, hpf⟩ := hp.sl
      clear hp
      generalize q[(lo + hi) / 2] = y at *
      obtain ⟨pv, tk, sz, sum, ps⟩ := y
      simp only at *
      subst hpf
      generalize ps.length = pn at *
      have hw1 : wrap64 ((lo : Int) + (hi : Int)) = ((lo + hi : Nat) : Int) := by rw [IntWalk.wrap64_in _ (by omega)]; omega
      have hmi : (((lo + hi) / 2 : Nat) : Int) < (q.length : Int) := by omega
      have hwk : wrap64 ((((lo + hi) / 2 : Nat) : Int) + 1) = (((lo + hi) / 2 + 1 : Nat) : Int) := by rw [IntWalk.wrap64_in _ (by omega)]; omega
      generalize cmpI _ _ = cm at *
      cases hbb : lb tk t
      · have hcm : decide (cm < 0) = false := by rw [HCB.out, hbb]
        have H2 := hid (HDN.out hbb)
        clear HCB HUP HDN hbb hm
        go_wp2_with fail
        refine CX.out.mono ?_
        rintro e w1 ⟨rfl, B1⟩
        clear CX d0 d1 d2 d3
        go_wp2
        exact ⟨⟨lo, (lo + hi) / 2, rfl, by first | rfl | simp, by omega, by omega, B1, H2⟩, by simp [intOf]; omega⟩
      · have hcm : decide (cm < 0) = true := by rw [HCB.out, hbb]
        have H2 := hid (HUP.out hbb)
        clear HCB HUP HDN hbb hm
        go_wp2_with fail
        refine CX.out.mono ?_
        rintro e w1 ⟨rfl, B1⟩
        clear CX d0 d1 d2 d3
        go_wp2
        exact ⟨⟨(lo + hi) / 2 + 1, hi, by first | rfl | simp, rfl, by omega, by omega, B1, H2⟩, by simp [intOf]; omega⟩
    · have he : lo = hi := by omega
      subst he
      obtain ⟨hp1, hp2⟩ := HP.out lo hin HI.out.1 HI.out.2
      have hp3 := hp1.symm
      subst hp3
      clear HP HI HS hlh hp1
      by_cases hlq : lo < q.length
      · obtain ⟨b, off, rfl, hb, c0, c1, c2, c3, hp⟩ := HC.out lo hlq
        have d0 := (HB.out.cell (p := ⟨b, off + lo * 4, none⟩) hb).trans c0
        have d1 := (HB.out.cell (p := ⟨b, off + lo * 4 + 1, none⟩) hb).trans c1
        have d2 := (HB.out.cell (p := ⟨b, off + lo * 4 + 2, none⟩) hb).trans c2
        have d3 := (HB.out.cell (p := ⟨b, off + lo * 4 + 3, none⟩) hb).trans c3
        have CX : Hid (Calls Try.prog 69 #[.agg #[.int .i64 q[lo].2.n, .int .i64 q[lo].2.sz, .string q[lo].2.sum, q[lo].1], .int .i64 t] wr fun e w' => e = .returned (.int .i64 (cmpI q[lo].2.n t)) ∧ Hid (Below w.heap.size w w')) := (CP.out q[lo] wr hp.sl).mono fun e w' ⟨he, hb⟩ => ⟨he, below_on HB.out hb⟩
        have hcz := cmp_lz q[lo].2.n t
        rw [dif_pos hlq, ← hcz] at hp2
        have HP2 := hid hp2
        clear hp2
        have hk1 : (lo : Int) < (q.length : Int) := by omega
        have hk0 : (0 : Int) ≤ (lo : Int) := by omega
        clear c0 c1 c2 c3 hb HC CP HB hcz
        obtain ⟨pa, pc, hpf⟩ := hp.sl
        clear hp
        generalize q[lo] = y at *
        obtain ⟨pv, tk, sz, sum, ps⟩ := y
        simp only at *
        subst hpf
        generalize ps.length = pn at *
        generalize cmpI _ _ = cm at *
        go_wp2_with fail
        refine CX.out.mono ?_
        rintro e w1 ⟨rfl, B1⟩
        clear CX d0 d1 d2 d3
        go_wp2
        go_ret2
        exact ⟨by rw [HP2.out]; rfl, B1.out⟩
      · rw [dif_neg hlq] at hp2
        subst hp2
        have hd : decide ((lo : Int) < (q.length : Int)) = false := decide_eq_false (by omega)
        have hd2 : decide (lo < q.length) = false := decide_eq_false hlq
        clear HC CP
        go_wp2
        go_ret2
        exact ⟨by first | rfl | simp, HB.out⟩
set_option maxRecDepth 100000 in
theorem tplace_any (v : Value) (q : List (Value × Pt)) (t : Int) (w : World) (hv : PtI w v q) (hs : q.Pairwise (fun a b => lb a.2.n b.2.n = true)) (hl : q.length ≤ 1048576) : Calls Try.prog 30 #[v, .int .i64 t] w fun e w' => e = .returned (.tuple #[.int .i64 (plQ q t : Nat), .bool (hasQ q t)]) ∧ Below w.heap.size w w' := by
  have H := hid (tbsf_any v q t w hv hs hl)
  generalize plQ q t = PN at *
  generalize hasQ q t = PB at *
  clear hv hs
  go_enter Try.func30, Try.ntmps30
  go_wp2_with fail
  refine H.out.mono ?_
  rintro e w1 ⟨rfl, b1⟩
  go_wp2
  go_ret2
  exact ⟨rfl, b1⟩
end Go.Proofs.Ytbiapepalkdkdab
namespace Go.Proofs.Ytbiapepalkdkdab
open Go.RowKit Go.Maps
set_option linter.unusedVariables false
set_option linter.unusedSimpArgs false

theorem ptOk_n {x : Pt} (h : ptOk x = true) : 1 ≤ x.n ∧ x.n ≤ 100 := by
  simp only [ptOk, Bool.and_eq_true, decide_eq_true_eq] at h
  exact ⟨h.1.1.2, h.1.2⟩
theorem ptF_all : ∀ {l : List Pt} {p : Option Int}, ptF p l = true → (∀ v ∈ l, ptOk v = true) ∧ l.Pairwise (fun a b => a.n < b.n) ∧ ∀ y, p = some y → ∀ v ∈ l, y < v.n
  | [], p, _ => ⟨fun v h => absurd h (List.not_mem_nil), List.Pairwise.nil, fun y e v h => absurd h (List.not_mem_nil)⟩
  | x :: r, p, h => by
    simp only [ptF, Bool.and_eq_true] at h
    obtain ⟨⟨h1, h2⟩, h3⟩ := h
    obtain ⟨a1, a2, a3⟩ := ptF_all h3
    refine ⟨fun v hv => ?_, List.Pairwise.cons (fun v hv => a3 _ rfl v hv) a2, fun y hy v hv => ?_⟩
    · rcases List.mem_cons.1 hv with e | e
      · rw [e]; exact h1
      · exact a1 v e
    · subst hy
      have hx : y < x.n := of_decide_eq_true h2
      rcases List.mem_cons.1 hv with e | e
      · rw [e]; exact hx
      · have := a3 _ rfl v e
        omega
theorem arePt_all {l : List Pt} (h : arePt l = true) : ∀ v ∈ l, ptOk v = true := (ptF_all h).1
theorem arePt_rise {l : List Pt} (h : arePt l = true) : l.Pairwise (fun a b => a.n < b.n) := (ptF_all h).2.1
theorem rise_from : ∀ {l : List Pt} {k : Int}, l.Pairwise (fun a b => a.n < b.n) → (∀ v ∈ l, k < v.n ∧ v.n ≤ 100) → k ≤ 100 → (l.length : Int) ≤ 100 - k
  | [], k, _, _, hk => by simp; omega
  | x :: r, k, hs, hb, hk => by
    have h1 := List.pairwise_cons.1 hs
    have hx := hb x (by simp)
    have := rise_from (k := x.n) h1.2 (fun v hv => ⟨h1.1 v hv, (hb v (List.mem_cons_of_mem _ hv)).2⟩) hx.2
    simp only [List.length_cons]
    omega
theorem arePt_len {l : List Pt} (h : arePt l = true) : l.length ≤ 100 := by
  have := rise_from (k := 0) (arePt_rise h) (fun v hv => by have := ptOk_n (arePt_all h v hv); omega) (by omega)
  omega
theorem ptF_of : ∀ {l : List Pt} {p : Option Int}, (∀ v ∈ l, ptOk v = true) → l.Pairwise (fun a b => a.n < b.n) → (∀ y, p = some y → ∀ v ∈ l, y < v.n) → ptF p l = true
  | [], _, _, _, _ => rfl
  | x :: r, p, hk, hs, hp => by
    rw [List.pairwise_cons] at hs
    simp only [ptF, Bool.and_eq_true]
    refine ⟨⟨hk x (by simp), ?_⟩, ptF_of (fun v hv => hk v (List.mem_cons_of_mem _ hv)) hs.2 (fun y hy v hv => by injection hy with hy; rw [← hy]; exact hs.1 v hv)⟩
    cases p with
    | none => rfl
    | some y => exact decide_eq_true (hp y rfl x (by simp))
theorem arePt_of {l : List Pt} (hk : ∀ v ∈ l, ptOk v = true) (hs : l.Pairwise (fun a b => a.n < b.n)) : arePt l = true := ptF_of hk hs (fun y hy => by cases hy)
/-- a part's place, and whether one of that number is there, by the list alone -/
def plT (l : List Pt) (n : Int) : Nat := l.countP (fun h => lb h.n n)
def hasT (l : List Pt) (n : Int) : Bool := l.any (fun h => decide (h.n = n))
theorem plQ_eq (q : List (Value × Pt)) (n : Int) : plQ q n = plT (tqL q) n := by
  unfold plQ plT tqL
  rw [List.countP_map]
  rfl
theorem hasQ_eq (q : List (Value × Pt)) (n : Int) : hasQ q n = hasT (tqL q) n := by
  unfold hasQ hasT tqL
  rw [List.any_map]
  rfl
/-- place at a list that is parts -/
theorem tplace_of (v : Value) (q : List (Value × Pt)) (n : Int) (w : World) (hv : PtI w v q) (h : arePt (tqL q) = true) : Calls Try.prog 30 #[v, .int .i64 n] w fun e w' => e = .returned (.tuple #[.int .i64 (plT (tqL q) n : Nat), .bool (hasT (tqL q) n)]) ∧ Below w.heap.size w w' := by
  have hs : q.Pairwise (fun a b => lb a.2.n b.2.n = true) := by
    have := arePt_rise h
    unfold tqL at this
    rw [List.pairwise_map] at this
    exact this.imp fun hab => decide_eq_true hab
  have hl : q.length ≤ 1048576 := by have := arePt_len h; rw [tqL_len] at this; omega
  have := tplace_any v q n w hv hs hl
  rw [plQ_eq, hasQ_eq] at this
  exact this
end Go.Proofs.Ytbiapepalkdkdab
namespace Go.Proofs.Ytbiapepalkdkdab
open Go.RowKit Go.Maps
set_option linter.unusedVariables false
set_option linter.unusedSimpArgs false

/-- a pick -/
structure Pk where
  n : Int
  su : ByteArray
def pkC (k : Pk) : List Value := [.int .i64 k.n, .string k.su]
def pkV (k : Pk) : Value := .agg #[.int .i64 k.n, .string k.su]
def kqC (l : List Pk) : List Value := l.flatMap pkC
theorem kqC_get (l : List Pk) (k : Nat) (hk : k < l.length) (i : Nat) (hi : i < 2) : (kqC l)[k * 2 + i]? = (pkC l[k])[i]? := flat_get pkC 2 l (fun _ _ => rfl) k hk i hi
theorem kqC_len (l : List Pk) : (kqC l).length = l.length * 2 := by
  induction l with
  | nil => rfl
  | cons p r ih => simp only [kqC, List.flatMap_cons, List.length_append, List.length_cons] at ih ⊢; rw [ih]; simp [pkC]; omega
theorem kqC_take (l : List Pk) (k : Nat) (hk : k < l.length) : kqC (l.take (k + 1)) = kqC (l.take k) ++ pkC l[k] := by
  unfold kqC
  rw [List.take_succ_eq_append_getElem hk, List.flatMap_append]
  simp
/-- picks in memory -/
def PkI (w : World) (v : Value) (l : List Pk) : Prop := RowC w v l.length (kqC l)
theorem PkI.next {w w' : World} {v : Value} {l : List Pk} (h : PkI w v l) (hB : Below w.heap.size w w') : PkI w' v l := RowC.next h hB
theorem PkI.form {w : World} {v : Value} {l : List Pk} (h : PkI w v l) : ∃ ad cap, v = .slice ad l.length cap ∧ ∀ k (hk : k < l.length), ∃ b off, ad = some ⟨b, off, none⟩ ∧ b < w.heap.size ∧ w.cell? ⟨b, off + k * 2, none⟩ = some (.int .i64 l[k].n) ∧ w.cell? ⟨b, off + k * 2 + 1, none⟩ = some (.string l[k].su) := by
  obtain ⟨ad, cap, e, hc⟩ := RowC.form h
  refine ⟨ad, cap, e, fun k hk => ?_⟩
  obtain ⟨b, off, e1, hb, c0⟩ := hc (k * 2 + 0) _ (kqC_get l k hk 0 (by omega))
  obtain ⟨b', off', e1', _, c1⟩ := hc (k * 2 + 1) _ (kqC_get l k hk 1 (by omega))
  rw [e1] at e1'
  injection e1' with e2
  injection e2 with e3 e4
  subst e3 e4
  exact ⟨b, off, e1, hb, c0, c1⟩
theorem pki_none (w : World) : PkI w (.slice none 0 0) [] := .inl ⟨none, 0, rfl, rfl, rfl⟩
/-- do their numbers rise? -/
def kpF : Option Int → List Pk → Bool
  | _, [] => true
  | p, v :: r => ptAbove p v.n && kpF (some v.n) r
def riseK (l : List Pk) : Bool := kpF none l
def prevK (l : List Pk) (k : Nat) : Option Int := if k = 0 then none else (l[k - 1]?).map (·.n)
theorem prevK_succ (l : List Pk) (k : Nat) (hk : k < l.length) : prevK l (k + 1) = some l[k].n := by simp [prevK, hk]
theorem kpF_at (l : List Pk) (k : Nat) (hk : k < l.length) : kpF (prevK l k) (l.drop k) = (ptAbove (prevK l k) l[k].n && kpF (prevK l (k + 1)) (l.drop (k + 1))) := by
  rw [List.drop_eq_getElem_cons hk, prevK_succ l k hk]; rfl
/-- the part that a pick names -/
def nmK (k : Pk) (x : Pt) : Bool := decide (x.n = k.n) && decide (x.sum = k.su)
def pk1 (l : List Pt) (k : Pk) : Option Pt := l.find? (nmK k)
def pkAll (l : List Pt) (ks : List Pk) : Bool := ks.all fun k => (pk1 l k).isSome
def pkL (l : List Pt) (ks : List Pk) : List Pt := ks.filterMap (pk1 l)
def pq1 (q : List (Value × Pt)) (k : Pk) : Option (Value × Pt) := q.find? fun y => nmK k y.2
def pqL (q : List (Value × Pt)) (ks : List Pk) : List (Value × Pt) := ks.filterMap (pq1 q)
theorem pq1_eq (q : List (Value × Pt)) (k : Pk) : (pq1 q k).map (·.2) = pk1 (tqL q) k := by
  unfold pq1 pk1 tqL
  rw [List.find?_map]
  rfl
theorem pqL_eq (q : List (Value × Pt)) (ks : List Pk) : tqL (pqL q ks) = pkL (tqL q) ks := by
  unfold pqL pkL tqL
  rw [List.map_filterMap]
  congr 1
  funext k
  exact pq1_eq q k
theorem pqL_mem {q : List (Value × Pt)} {ks : List Pk} {y : Value × Pt} (h : y ∈ pqL q ks) : y ∈ q := by
  obtain ⟨k, _, hk⟩ := List.mem_filterMap.1 h
  exact List.mem_of_find?_eq_some hk
/-- of a rising list the part at the place is the one of the number -/
theorem plT_at : ∀ {l : List Pt} {n : Int}, l.Pairwise (fun a b => a.n < b.n) → hasT l n = true → ∃ x, l[plT l n]? = some x ∧ x.n = n
  | [], n, _, h => by simp [hasT] at h
  | x :: r, n, hs, h => by
    have h1 := List.pairwise_cons.1 hs
    have e : hasT (x :: r) n = (decide (x.n = n) || hasT r n) := rfl
    have e2 : plT (x :: r) n = plT r n + (if lb x.n n = true then 1 else 0) := by unfold plT; rw [List.countP_cons]
    rw [e2]
    by_cases hx : x.n = n
    · have h0 : lb x.n n = false := by unfold lb; exact decide_eq_false (by omega)
      have hz : plT r n = 0 := by
        unfold plT
        rw [List.countP_eq_zero]
        intro a ha
        have := h1.1 a ha
        unfold lb
        simp
        omega
      rw [h0, hz]
      exact ⟨x, by simp, hx⟩
    · rw [e, decide_eq_false hx, Bool.false_or] at h
      obtain ⟨z, hz, hn⟩ := plT_at h1.2 h
      have h0 : lb x.n n = true := by
        unfold lb
        have := h1.1 z (List.mem_of_getElem? hz)
        exact decide_eq_true (by omega)
      rw [h0]
      exact ⟨z, by simpa using hz, hn⟩
theorem nm_uniq {l : List Pt} (hs : l.Pairwise (fun a b => a.n < b.n)) {x y : Pt} (hx : x ∈ l) (hy : y ∈ l) (h : x.n = y.n) : x = y := by
  induction l with
  | nil => cases hx
  | cons z r ih =>
    have h1 := List.pairwise_cons.1 hs
    rcases List.mem_cons.1 hx with e | e <;> rcases List.mem_cons.1 hy with f | f
    · rw [e, f]
    · have := h1.1 y f; rw [e] at h; omega
    · have := h1.1 x e; rw [f] at h; omega
    · exact ih h1.2 e f
/-- what a pick names, by the place -/
theorem pk1_place {l : List Pt} (hs : l.Pairwise (fun a b => a.n < b.n)) (k : Pk) : pk1 l k = if hasT l k.n = true then (match l[plT l k.n]? with | some x => if x.sum = k.su then some x else none | none => none) else none := by
  by_cases h : hasT l k.n = true
  · rw [if_pos h]
    obtain ⟨x, hx, hn⟩ := plT_at hs h
    rw [hx]
    simp only
    have hm := List.mem_of_getElem? hx
    by_cases hsu : x.sum = k.su
    · rw [if_pos hsu]
      have h1 : nmK k x = true := by simp [nmK, hn, hsu]
      cases hf : pk1 l k with
      | none => have := List.find?_eq_none.1 hf x hm; exact absurd h1 this
      | some y =>
        have hy := List.find?_some hf
        have hym := List.mem_of_find?_eq_some hf
        simp only [nmK, Bool.and_eq_true, decide_eq_true_eq] at hy
        rw [nm_uniq hs hym hm (by rw [hy.1, hn])]
    · rw [if_neg hsu]
      unfold pk1
      rw [List.find?_eq_none]
      intro y hy hyk
      simp only [nmK, Bool.and_eq_true, decide_eq_true_eq] at hyk
      have := nm_uniq hs hy hm (by rw [hyk.1, hn])
      rw [this] at hyk
      exact hsu hyk.2
  · rw [if_neg h]
    unfold pk1
    rw [List.find?_eq_none]
    intro y hy hyk
    simp only [nmK, Bool.and_eq_true, decide_eq_true_eq] at hyk
    apply h
    unfold hasT
    rw [List.any_eq_true]
    exact ⟨y, hy, decide_eq_true hyk.1⟩
/-- are they too small, too long; what they come to -/
def smT (l : List Pt) : Bool := l.any fun x => decide (x.sz < 64)
def szT (l : List Pt) : Int := (l.map (·.sz)).sum
def psT (l : List Pt) : List Pc := l.flatMap (·.ps)
def loT (l : List Pt) : Bool := decide (1048576 < szT l) || decide (512 < (psT l).length)
def sumT (l : List Pt) : List ByteArray := l.map (·.sum)
/-- the error of putting together -/
def tjE (l : List Pt) (ks : List Pk) : Int :=
  if (arePt l && !ks.isEmpty && riseK ks) = true then
    if pkAll l ks = true then
      if smT (pkL l ks).dropLast = true then 141 else if loT (pkL l ks) = true then 2 else 0
    else 140
  else 1
end Go.Proofs.Ytbiapepalkdkdab
namespace Go.Proofs.Ytbiapepalkdkdab
open Go.RowKit Go.Maps
set_option linter.unusedVariables false
set_option linter.unusedSimpArgs false

theorem kpF_all : ∀ {l : List Pk} {p : Option Int}, kpF p l = true → l.Pairwise (fun a b => a.n < b.n) ∧ ∀ y, p = some y → ∀ v ∈ l, y < v.n
  | [], p, _ => ⟨List.Pairwise.nil, fun y e v h => absurd h (List.not_mem_nil)⟩
  | x :: r, p, h => by
    simp only [kpF, Bool.and_eq_true] at h
    obtain ⟨h2, h3⟩ := h
    obtain ⟨a2, a3⟩ := kpF_all h3
    refine ⟨List.Pairwise.cons (fun v hv => a3 _ rfl v hv) a2, fun y hy v hv => ?_⟩
    subst hy
    have hx : y < x.n := of_decide_eq_true h2
    rcases List.mem_cons.1 hv with e | e
    · rw [e]; exact hx
    · have := a3 _ rfl v e
      omega
theorem riseK_pw {l : List Pk} (h : riseK l = true) : l.Pairwise (fun a b => a.n < b.n) := (kpF_all h).1
theorem pk1_some {l : List Pt} {k : Pk} {x : Pt} (h : pk1 l k = some x) : x ∈ l ∧ x.n = k.n ∧ x.sum = k.su := by
  have h1 := List.find?_some h
  simp only [nmK, Bool.and_eq_true, decide_eq_true_eq] at h1
  exact ⟨List.mem_of_find?_eq_some h, h1.1, h1.2⟩
theorem pkAll_at {l : List Pt} {ks : List Pk} (h : pkAll l ks = true) : ∀ k ∈ ks, ∃ x, pk1 l k = some x := by
  intro k hk
  have := List.all_eq_true.1 h k hk
  exact Option.isSome_iff_exists.1 this
theorem pkAll_take {l : List Pt} {ks : List Pk} {k : Nat} (hk : k < ks.length) : pkAll l (ks.take (k + 1)) = (pkAll l (ks.take k) && (pk1 l ks[k]).isSome) := by
  unfold pkAll
  rw [List.take_succ_eq_append_getElem hk, List.all_append]
  simp
/-- picks that rise, each of which names a part: at most a hundred -/
theorem pk_len {l : List Pt} {ks : List Pk} (hl : arePt l = true) (hr : ks.Pairwise (fun a b => a.n < b.n)) (ha : pkAll l ks = true) : ks.length ≤ 100 := by
  have h := rise_from (l := ks.map fun k => (⟨k.n, 0, ⟨#[]⟩, []⟩ : Pt)) (k := 0) (by rw [List.pairwise_map]; exact hr) (fun v hv => by
    obtain ⟨k, hk, rfl⟩ := List.mem_map.1 hv
    obtain ⟨x, hx⟩ := pkAll_at ha k hk
    obtain ⟨h1, h2, _⟩ := pk1_some hx
    have := ptOk_n (arePt_all hl x h1)
    simp only
    omega) (by omega)
  simp at h
  omega
theorem pkL_len {l : List Pt} : ∀ {ks : List Pk}, pkAll l ks = true → (pkL l ks).length = ks.length
  | [], _ => rfl
  | k :: r, h => by
    simp only [pkAll, List.all_cons, Bool.and_eq_true] at h
    obtain ⟨x, hx⟩ := Option.isSome_iff_exists.1 h.1
    unfold pkL
    rw [List.filterMap_cons, hx]
    simp only [List.length_cons]
    have := pkL_len (ks := r) h.2
    unfold pkL at this
    omega
theorem pkL_mem {l : List Pt} {ks : List Pk} {x : Pt} (h : x ∈ pkL l ks) : x ∈ l := by
  obtain ⟨k, _, hk⟩ := List.mem_filterMap.1 h
  exact (pk1_some hk).1
theorem pkL_take {l : List Pt} {ks : List Pk} {k : Nat} (hk : k < ks.length) {x : Pt} (hx : pk1 l ks[k] = some x) : pkL l (ks.take (k + 1)) = pkL l (ks.take k) ++ [x] := by
  unfold pkL
  rw [List.take_succ_eq_append_getElem hk, List.filterMap_append]
  simp [hx]
theorem pqL_take {q : List (Value × Pt)} {ks : List Pk} {k : Nat} (hk : k < ks.length) {y : Value × Pt} (hy : pq1 q ks[k] = some y) : pqL q (ks.take (k + 1)) = pqL q (ks.take k) ++ [y] := by
  unfold pqL
  rw [List.take_succ_eq_append_getElem hk, List.filterMap_append]
  simp [hy]
/-- bounds of what is added up -/
theorem ptOk_b {x : Pt} (h : ptOk x = true) : 0 ≤ x.sz ∧ x.sz ≤ 2097152 ∧ x.ps.length ≤ 512 ∧ x.sum.size = 64 := by
  simp only [ptOk, pcsOk, Bool.and_eq_true, decide_eq_true_eq, List.all_eq_true] at h
  obtain ⟨⟨⟨⟨⟨h1, h2⟩, h3⟩, -⟩, -⟩, h5⟩ := h
  simp only [isDg, Bool.and_eq_true, decide_eq_true_eq] at h5
  have hb := pcsN_bd x.ps h2
  have he : pcV x.ps = pcsN x.ps := by
    unfold pcV pcsOk
    rw [if_pos (by simp only [Bool.and_eq_true, decide_eq_true_eq, List.all_eq_true]; exact ⟨h1, h2⟩)]
  rw [he] at h3
  exact ⟨by omega, by omega, by omega, h5.1⟩
theorem szT_bd : ∀ {l : List Pt}, (∀ x ∈ l, ptOk x = true) → 0 ≤ szT l ∧ szT l ≤ 2097152 * (l.length : Int)
  | [], _ => by simp [szT]
  | x :: r, h => by
    have h1 := ptOk_b (h x (by simp))
    have h2 := szT_bd (l := r) (fun y hy => h y (List.mem_cons_of_mem _ hy))
    have e : szT (x :: r) = x.sz + szT r := by simp [szT]
    rw [e]
    simp only [List.length_cons]
    omega
theorem psT_bd : ∀ {l : List Pt}, (∀ x ∈ l, ptOk x = true) → (psT l).length ≤ 512 * l.length
  | [], _ => by simp [psT]
  | x :: r, h => by
    have h1 := ptOk_b (h x (by simp))
    have h2 := psT_bd (l := r) (fun y hy => h y (List.mem_cons_of_mem _ hy))
    have e : psT (x :: r) = x.ps ++ psT r := by simp [psT]
    rw [e]
    simp only [List.length_cons, List.length_append]
    omega
theorem szT_app (l r : List Pt) : szT (l ++ r) = szT l + szT r := by simp [szT]
theorem szT_one (x : Pt) : szT [x] = x.sz := by simp [szT]
theorem psT_app (l r : List Pt) : psT (l ++ r) = psT l ++ psT r := by simp [psT]
theorem psT_one (x : Pt) : psT [x] = x.ps := by simp [psT]
theorem sumT_app (l r : List Pt) : sumT (l ++ r) = sumT l ++ sumT r := by simp [sumT]
theorem sumT_one (x : Pt) : sumT [x] = [x.sum] := rfl
theorem tk_app (l : List Pt) (k : Nat) (hk : k < l.length) : l.take (k + 1) = l.take k ++ [l[k]] := List.take_succ_eq_append_getElem hk
/-- two rising lists with the same members are the same -/
theorem rise_ext : ∀ {l m : List Pt}, l.Pairwise (fun a b => a.n < b.n) → m.Pairwise (fun a b => a.n < b.n) → (∀ x, x ∈ l ↔ x ∈ m) → l = m
  | [], [], _, _, _ => rfl
  | [], y :: s, _, _, h => absurd ((h y).2 (by simp)) (List.not_mem_nil)
  | x :: r, [], _, _, h => absurd ((h x).1 (by simp)) (List.not_mem_nil)
  | x :: r, y :: s, hl, hm, h => by
    have h1 := List.pairwise_cons.1 hl
    have h2 := List.pairwise_cons.1 hm
    have e : x = y := by
      rcases List.mem_cons.1 ((h x).1 (by simp)) with e | e
      · exact e
      · rcases List.mem_cons.1 ((h y).2 (by simp)) with f | f
        · exact f.symm
        · have a := h2.1 x e
          have b := h1.1 y f
          omega
    subst e
    have := rise_ext (l := r) (m := s) h1.2 h2.2 (fun z => by
      constructor
      · intro hz
        rcases List.mem_cons.1 ((h z).1 (List.mem_cons_of_mem _ hz)) with e | e
        · have := h1.1 z hz; rw [e] at this; omega
        · exact e
      · intro hz
        rcases List.mem_cons.1 ((h z).2 (List.mem_cons_of_mem _ hz)) with e | e
        · have := h2.1 z hz; rw [e] at this; omega
        · exact e)
    rw [this]
theorem pkL_rise {l : List Pt} : ∀ {ks : List Pk}, ks.Pairwise (fun a b => a.n < b.n) → (pkL l ks).Pairwise (fun a b => a.n < b.n)
  | [], _ => List.Pairwise.nil
  | k :: r, h => by
    have h1 := List.pairwise_cons.1 h
    have ih := pkL_rise (l := l) (ks := r) h1.2
    cases hx : pk1 l k with
    | none => unfold pkL; rw [List.filterMap_cons, hx]; exact ih
    | some x =>
      unfold pkL
      rw [List.filterMap_cons, hx]
      refine List.Pairwise.cons (fun y hy => ?_) ih
      obtain ⟨j, hj, hy⟩ := List.mem_filterMap.1 hy
      have := h1.1 j hj
      have a := (pk1_some hx).2.1
      have b := (pk1_some hy).2.1
      omega
def inK (ks : List Pk) (x : Pt) : Bool := ks.any fun k => decide (k.n = x.n)
/-- what is picked stands in the order of the parts -/
theorem pkL_filter {l : List Pt} {ks : List Pk} (hl : arePt l = true) (hr : ks.Pairwise (fun a b => a.n < b.n)) (ha : pkAll l ks = true) : pkL l ks = l.filter (inK ks) := by
  refine rise_ext (pkL_rise hr) ((arePt_rise hl).filter _) (fun x => ?_)
  constructor
  · intro h
    obtain ⟨k, hk, hx⟩ := List.mem_filterMap.1 h
    have := pk1_some hx
    rw [List.mem_filter]
    exact ⟨this.1, List.any_eq_true.2 ⟨k, hk, decide_eq_true this.2.1.symm⟩⟩
  · intro h
    obtain ⟨h1, h2⟩ := List.mem_filter.1 h
    obtain ⟨k, hk, hn⟩ := List.any_eq_true.1 h2
    obtain ⟨y, hy⟩ := pkAll_at ha k hk
    have hy2 := pk1_some hy
    have : y = x := nm_uniq (arePt_rise hl) hy2.1 h1 (by rw [hy2.2.1]; exact of_decide_eq_true hn)
    rw [← this]
    exact List.mem_filterMap.2 ⟨k, hk, hy⟩
/-- the version that is put together -/
def tjV (l : List Pt) (ks : List Pk) (sum : ByteArray) : Vn := if tjE l ks = 0 then ⟨0, false, szT (pkL l ks), sum, psT (pkL l ks)⟩ else ⟨0, false, 0, ⟨#[]⟩, []⟩
/-- the cases of what is told -/
theorem tj_cases (l : List Pt) (ks : List Pk) :
    (tjE l ks = 1 ∧ (arePt l && !ks.isEmpty && riseK ks) = false) ∨
    ((arePt l = true ∧ ks ≠ [] ∧ riseK ks = true) ∧ ((tjE l ks = 140 ∧ pkAll l ks = false) ∨
      (pkAll l ks = true ∧ ((tjE l ks = 141 ∧ smT (pkL l ks).dropLast = true) ∨ (smT (pkL l ks).dropLast = false ∧ ((tjE l ks = 2 ∧ loT (pkL l ks) = true) ∨ (tjE l ks = 0 ∧ loT (pkL l ks) = false))))))) := by
  unfold tjE
  cases h : (arePt l && !ks.isEmpty && riseK ks) with
  | false => exact .inl ⟨by simp, rfl⟩
  | true =>
    right
    simp only [Bool.and_eq_true, Bool.not_eq_true', List.isEmpty_eq_false_iff] at h
    refine ⟨⟨h.1.1, h.1.2, h.2⟩, ?_⟩
    cases h2 : pkAll l ks with
    | false => exact .inl ⟨by simp, rfl⟩
    | true =>
      right
      refine ⟨rfl, ?_⟩
      cases h3 : smT (pkL l ks).dropLast with
      | true => exact .inl ⟨by simp, rfl⟩
      | false =>
        right
        refine ⟨rfl, ?_⟩
        cases h4 : loT (pkL l ks) with
        | true => exact .inl ⟨by simp, rfl⟩
        | false => exact .inr ⟨by simp, rfl⟩
end Go.Proofs.Ytbiapepalkdkdab
