/- The walk of the law ConfMeet. -/
import Derived.Test.YtghcijliknahdabConfX
import Derived.Deep.RegionHeld3
namespace Go.Proofs.Ytghcijliknahdab
open Go.RowKit Go.Maps
set_option linter.unusedVariables false
set_option linter.unusedSimpArgs false

/-- the box of the bits, and what lies below -/
def BoxM (w : World) (x y : Int) (W : World) : Prop := Below w.heap.size w W ∧ W.cell? ⟨w.heap.size, 0, none⟩ = some (.int .i64 x) ∧ W.cell? ⟨w.heap.size, 1, none⟩ = some (.int .i64 y)
theorem BoxM.drew {w W : World} {x y : Int} (h : BoxM w x y W) : BoxM w x y W.drew := ⟨h.1.drew, h.2.1, h.2.2⟩
theorem BoxM.next {w W W' : World} {x y : Int} (h : BoxM w x y W) (k : Below W.heap.size W W') : BoxM w x y W' :=
  ⟨below_on h.1 k, (k.cell (p := ⟨w.heap.size, 0, none⟩) (World.block_lt_of_cell? W _ h.2.1)).trans h.2.1, (k.cell (p := ⟨w.heap.size, 1, none⟩) (World.block_lt_of_cell? W _ h.2.2)).trans h.2.2⟩
set_option maxRecDepth 100000 in
set_option maxHeartbeats 2000000 in
theorem confMeet_walk (v0 : Value) (l : List Int) (v1 : Value) (m : List Int) (x y : Int) (w : World) (h0 : IntsI w v0 l) (_f0 : ∀ x ∈ l, (Lit.int .i64 x).wf = true) (z0 : l.length ≤ 17592186044416) (h1 : IntsI w v1 m) (_f1 : ∀ x ∈ m, (Lit.int .i64 x).wf = true) (z1 : m.length ≤ 17592186044416) :
    Calls Try.prog 3 #[v0, v1, .agg #[.int .i64 x, .int .i64 y]] w fun e w' => e = .returned (.bool true) ∧ Below w.heap.size w w' := by
  have ex := i64_and127 x
  have ey := i64_and127 y
  obtain ⟨f, hf⟩ : ∃ f : Nat, x % 128 = (f : Int) := ⟨(x % 128).toNat, by omega⟩
  obtain ⟨t, ht⟩ : ∃ t : Nat, y % 128 = (t : Int) := ⟨(y % 128).toNat, by omega⟩
  rw [hf] at ex
  rw [ht] at ey
  have hf128 : f < 128 := by omega
  have ht128 : t < 128 := by omega
  have S1 : Hid (∀ W, BoxM w x y W → Calls Try.prog 5 #[v0, .int .i64 (f : Int)] W fun e w' => ∃ ad cap, e = .returned (.slice ad (smL l f).length cap) ∧ (w'.cell? ⟨w.heap.size, 0, none⟩ = some (.int .i64 x) ∧ w'.cell? ⟨w.heap.size, 1, none⟩ = some (.int .i64 y)) ∧ Hid (BoxM w x y w' ∧ IntsI w' (.slice ad (smL l f).length cap) (smL l f) ∧ Below W.heap.size W w')) := fun W hW => (some_any v0 l f hf128 W (h0.next hW.1) z0).mono fun e w' ⟨v, he, ho, hb⟩ => by
    obtain ⟨ad, cap, rfl⟩ := ho.form
    exact ⟨ad, cap, he, (hW.next hb).2, hW.next hb, ho.ints, hb⟩
  have S2 : Hid (∀ W, BoxM w x y W → Calls Try.prog 5 #[v1, .int .i64 (t : Int)] W fun e w' => ∃ ad cap, e = .returned (.slice ad (smL m t).length cap) ∧ (w'.cell? ⟨w.heap.size, 0, none⟩ = some (.int .i64 x) ∧ w'.cell? ⟨w.heap.size, 1, none⟩ = some (.int .i64 y)) ∧ Hid (BoxM w x y w' ∧ IntsI w' (.slice ad (smL m t).length cap) (smL m t) ∧ Below W.heap.size W w')) := fun W hW => (some_any v1 m t ht128 W (h1.next hW.1) z1).mono fun e w' ⟨v, he, ho, hb⟩ => by
    obtain ⟨ad, cap, rfl⟩ := ho.form
    exact ⟨ad, cap, he, (hW.next hb).2, hW.next hb, ho.ints, hb⟩
  have y0 := (srow w [.int .i64 x, .int .i64 y] 23).cellAt (o := 0) rfl
  have y1 := (srow w [.int .i64 x, .int .i64 y] 23).cellAt (o := 1) rfl
  have H0 : Hid (BoxM w x y (w.alloc (.cells #[.int .i64 x, .int .i64 y] 23))) := ⟨below_al (Below.refl _ _) _, y0, y1⟩
  go_enter Try.func3, Try.ntmps3
  go_wp2
  go_region_held3 (fun w' => w'.cell? ⟨w.heap.size, 0, none⟩ = some (.int .i64 x) ∧ w'.cell? ⟨w.heap.size, 1, none⟩ = some (.int .i64 y)) (first | exact ⟨y0, y1⟩ | with_reducible assumption | go_keep) (first | (go_at_call 5; with_reducible (refine (S1.out _ ?_).mono ?_); (first | exact H0.out | exact H0.out.drew | exact HB.out.1 | exact HB.out.1.drew); rintro e wA ⟨ada, cpa, rfl, sA, HA⟩) | (go_at_call 5; with_reducible (refine (S2.out _ ?_).mono ?_); (first | exact H0.out | exact H0.out.drew | exact HA.out.1 | exact HA.out.1.drew); rintro e wB ⟨adb, cpb, rfl, sB, HB⟩))
  have IA := hid (HA.out.2.1.next HB.out.2.2)
  have IB := hid HB.out.2.1
  have BB := hid HB.out.1.1
  clear HA HB sA sB y0 y1 H0 S1 S2 ex ey
  try clear hHeld
  have EN : Hid (∀ (v v' : Value) (c d : List Int) W, IntsI W v c → IntsI W v' d → c.length ≤ 17592186044416 → d.length ≤ 17592186044416 → Calls Try.prog 6 #[v, v'] W fun e w' => e = .returned (.bool (engC c d)) ∧ w' = W) := fun v v' c d W hv hv' hc hd => cenough_any v v' c d W hv hv' (by omega) (by omega)
  have IN : Hid (∀ W, Below w.heap.size w W → Calls Try.prog 7 #[v0, v1] W fun e w' => e = .returned (.bool (eqI l m)) ∧ Below W.heap.size W w') := fun W hW => ints_any v0 v1 l m W (h0.next hW) (h1.next hW) (by omega)
  have NR : Hid (∀ W, Below w.heap.size w W → Calls Try.prog 8 #[v0, v1] W fun e w' => e = .returned (.bool (nearC l m)) ∧ w' = W) := fun W hW => cnear_any v0 v1 l m W (h0.next hW) (h1.next hW) (by omega) (by omega)
  have AW := hid (fun W => awake9 W)
  have HAS : Hid (∀ (v : Value) (c : List Int) (n : Int) W, IntsI W v c → c.length ≤ 17592186044416 → Calls Try.prog 10 #[v, .int .i64 n] W fun e w' => e = .returned (.bool (hasI n c)) ∧ w' = W) := fun v c n W hv hc => rhas_any v c n W hv (by omega)
  have L1 : Hid ((smL l f).length ≤ 17592186044416) := Nat.le_trans (List.length_filter_le _ _) z0
  have L2 : Hid ((smL m t).length ≤ 17592186044416) := Nat.le_trans (List.length_filter_le _ _) z1
  have ME := hid (fun h1 h2 h3 => meet_all (l := l) (m := m) (f := f) (t := t) h1 h2 h3)
  have EQ : Hid (eqI l m = true → l = m) := fun h => eqI_iff.1 h
  have E1 := hid (EN.out _ _ l (smL l f) _ (h0.next BB.out) IA.out z0 L1.out)
  have E2 := hid (EN.out _ _ m (smL m t) _ (h1.next BB.out) IB.out z1 L2.out)
  clear h0 h1 _f0 _f1 z0 z1 hf ht hf128 ht128 EN
  generalize smL l f = a at *
  generalize smL m t = b at *
  generalize engC l a = g1 at *
  generalize engC m b = g2 at *
  cases g1
  · clear E2 IN NR HAS ME EQ
    go_wp2_with fail
    refine E1.out.mono ?_
    rintro e w3 ⟨rfl, rfl⟩
    go_wp2_with fail
    refine (AW.out _).mono ?_
    rintro e w4 ⟨rfl, k4⟩
    have B4 := hid (below_on BB.out k4)
    clear k4
    go_wp2
    go_ret
    exact ⟨rfl, B4.out⟩
  cases g2
  · clear IN NR HAS ME EQ
    go_wp2_with fail
    refine E1.out.mono ?_
    rintro e w3 ⟨rfl, rfl⟩
    go_wp2_with fail
    refine E2.out.mono ?_
    rintro e w3 ⟨rfl, rfl⟩
    go_wp2_with fail
    refine (AW.out _).mono ?_
    rintro e w4 ⟨rfl, k4⟩
    have B4 := hid (below_on BB.out k4)
    clear k4
    go_wp2
    go_ret
    exact ⟨rfl, B4.out⟩
  have ME2 : Hid (eqI l m = true ∨ nearC l m = true → anyI b a = true) := fun h => ME.out rfl rfl (h.imp EQ.out id)
  clear ME EQ
  generalize eqI l m = g3 at *
  generalize nearC l m = g4 at *
  go_wp2_with fail
  refine E1.out.mono ?_
  rintro e w3 ⟨rfl, rfl⟩
  go_wp2_with fail
  refine E2.out.mono ?_
  rintro e w3 ⟨rfl, rfl⟩
  clear E1 E2
  go_wp2_with fail
  refine (IN.out _ BB.out).mono ?_
  rintro e w5 ⟨rfl, k5⟩
  have IA5 := hid (IA.out.next k5)
  have IB5 := hid (IB.out.next k5)
  have B5 := hid (below_on BB.out k5)
  clear k5 IA IB BB IN
  cases g3
  · go_wp2_with fail
    refine (NR.out _ B5.out).mono ?_
    rintro e w6 ⟨rfl, rfl⟩
    cases g4
    · clear ME2 HAS NR
      go_wp2_with fail
      refine (AW.out _).mono ?_
      rintro e w7 ⟨rfl, k7⟩
      have B7 := hid (below_on B5.out k7)
      clear k7
      go_wp2
      go_ret
      exact ⟨rfl, B7.out⟩
    · have HAN : Hid (anyI b (a.drop 0) = true) := ME2.out (.inr rfl)
      clear ME2 NR
      obtain ⟨ada', cpa', hva, hca⟩ := IA5.out.form
      injection hva with hv1 hv2 hv3
      subst hv1 hv3
      have HCA := hid hca
      clear hca hv2
      go_wp2
      go_loopw [9] (fun i wr => ∃ (k : Nat), k ≤ a.length ∧ i = .int .i64 (k : Int) ∧ w6 = wr ∧ Hid (anyI b (a.drop k) = true)) (fun i _ => a.length - (intOf i).toNat)
      case atStart => exact ⟨0, Nat.zero_le _, rfl, rfl, HAN⟩
      case round =>
        clear HAN
        obtain ⟨k, hk, rfl, rfl, HR⟩ := hrel
        by_cases hlt : k < a.length
        · have hk0 : (0 : Int) ≤ (k : Int) := by omega
          have hk1 : (k : Int) < (a.length : Int) := by omega
          obtain ⟨bb, off, rfl, hb, hc⟩ := HCA.out k hlt
          have HRA := hid (anyI_at (b := b) hlt)
          have hwk : wrap64 ((k : Int) + 1) = ((k + 1 : Nat) : Int) := by have := L1.out; rw [IntWalk.wrap64_in _ (by omega)]; omega
          have HLT := hid hlt
          generalize a[k] = y at *
          have H1 := hid (HAS.out _ b y _ IB5.out L2.out)
          clear HCA hb HAS hlt hk
          generalize hasI y b = g at *
          cases g
          · have HR2 : Hid (anyI b (a.drop (k + 1)) = true) := by have := HR.out; rw [HRA.out, Bool.false_or] at this; exact this
            clear HR HRA
            go_wp2_with fail
            refine H1.out.mono ?_
            rintro e w6 ⟨rfl, rfl⟩
            go_wp2
            exact ⟨⟨k + 1, HLT.out, by first | rw [hwk] | rfl | simp, by first | rfl | trivial, HR2⟩, by rw [hwk]; have := HLT.out; simp [intOf]; omega⟩
          · clear HR HRA
            go_wp2_with fail
            refine H1.out.mono ?_
            rintro e w6 ⟨rfl, rfl⟩
            go_wp2_with fail
            refine (AW.out _).mono ?_
            rintro e w7 ⟨rfl, k7⟩
            have B7 := hid (below_on B5.out k7)
            clear k7
            go_wp2
            go_ret
            exact ⟨rfl, B7.out⟩
        · have hk9 : k = a.length := by omega
          exfalso
          have := HR.out
          rw [hk9, List.drop_length] at this
          cases this
  · have HAN : Hid (anyI b (a.drop 0) = true) := ME2.out (.inl rfl)
    clear ME2 NR
    obtain ⟨ada', cpa', hva, hca⟩ := IA5.out.form
    injection hva with hv1 hv2 hv3
    subst hv1 hv3
    have HCA := hid hca
    clear hca hv2
    go_wp2
    go_loopw [9] (fun i wr => ∃ (k : Nat), k ≤ a.length ∧ i = .int .i64 (k : Int) ∧ w5 = wr ∧ Hid (anyI b (a.drop k) = true)) (fun i _ => a.length - (intOf i).toNat)
    case atStart => exact ⟨0, Nat.zero_le _, rfl, rfl, HAN⟩
    case round =>
      clear HAN
      obtain ⟨k, hk, rfl, rfl, HR⟩ := hrel
      by_cases hlt : k < a.length
      · have hk0 : (0 : Int) ≤ (k : Int) := by omega
        have hk1 : (k : Int) < (a.length : Int) := by omega
        obtain ⟨bb, off, rfl, hb, hc⟩ := HCA.out k hlt
        have HRA := hid (anyI_at (b := b) hlt)
        have hwk : wrap64 ((k : Int) + 1) = ((k + 1 : Nat) : Int) := by have := L1.out; rw [IntWalk.wrap64_in _ (by omega)]; omega
        have HLT := hid hlt
        generalize a[k] = y at *
        have H1 := hid (HAS.out _ b y _ IB5.out L2.out)
        clear HCA hb HAS hlt hk
        generalize hasI y b = g at *
        cases g
        · have HR2 : Hid (anyI b (a.drop (k + 1)) = true) := by have := HR.out; rw [HRA.out, Bool.false_or] at this; exact this
          clear HR HRA
          go_wp2_with fail
          refine H1.out.mono ?_
          rintro e w6 ⟨rfl, rfl⟩
          go_wp2
          exact ⟨⟨k + 1, HLT.out, by first | rw [hwk] | rfl | simp, by first | rfl | trivial, HR2⟩, by rw [hwk]; have := HLT.out; simp [intOf]; omega⟩
        · clear HR HRA
          go_wp2_with fail
          refine H1.out.mono ?_
          rintro e w6 ⟨rfl, rfl⟩
          go_wp2_with fail
          refine (AW.out _).mono ?_
          rintro e w7 ⟨rfl, k7⟩
          have B7 := hid (below_on B5.out k7)
          clear k7
          go_wp2
          go_ret
          exact ⟨rfl, B7.out⟩
      · have hk9 : k = a.length := by omega
        exfalso
        have := HR.out
        rw [hk9, List.drop_length] at this
        cases this
end Go.Proofs.Ytghcijliknahdab
