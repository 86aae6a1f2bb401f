/- The walk of the law ShotFalls. -/
import Derived.Test.YtflecoplpdbonaaSfV
import Derived.Deep.CutRange
import Derived.Deep.RegionHeld3
namespace Go.Proofs.Ytflecoplpdbonaa
open Go.RowKit Go.Maps
set_option linter.unusedVariables false
set_option linter.unusedSimpArgs false

theorem at16 (a : Int) : ∃ t : Int, (wrap64 (a.tmod 16 + 16)).tmod 16 = t ∧ 0 ≤ t ∧ t < 16 := by
  refine ⟨_, rfl, ?_⟩
  have h1 : -16 < a.tmod 16 ∧ a.tmod 16 < 16 := by
    have h2 := Int.natAbs_tmod a 16
    have h3 : (a.tmod 16).natAbs < 16 := by rw [h2]; exact Nat.mod_lt _ (by decide)
    omega
  have e1 : wrap64 (a.tmod 16 + 16) = a.tmod 16 + 16 := IntWalk.wrap64_in _ (by omega)
  rw [e1, Int.tmod_eq_emod_of_nonneg (by omega)]
  omega
theorem wf_small {x : Int} (h : 0 ≤ x ∧ x ≤ 100000) : (Lit.int .i64 x).wf = true := by
  show (decide (IntKind.i64.min ≤ x) && decide (x ≤ IntKind.i64.max)) = true
  rw [Bool.and_eq_true]
  have hl : IntKind.i64.min = -9223372036854775808 := by decide
  have hh : IntKind.i64.max = 9223372036854775807 := by decide
  rw [hl, hh]
  constructor <;> (apply decide_eq_true; omega)
/-- the loop's head -/
def FaI (w w1 : World) (p b6 b7 : Nat) (f : Fl) (i : Value) (W : World) : Prop := ∃ (k : Nat) (y0 y1 : Value × Sh) (d : Ds), i = .int .i64 k ∧ k ≤ 8 ∧ Hid (FaM w1 p b6 b7 y0 y1 d W) ∧ Hid ((IntsI w y0.1 y0.2.ms ∧ y0.2.ms.length ≤ 17592186044416) ∧ IntsI w y1.1 y1.2.ms ∧ y1.2.ms.length ≤ 17592186044416) ∧ Hid (FaV f k y0.2 y1.2 d)
set_option maxRecDepth 100000 in
set_option maxHeartbeats 4000000 in
theorem shotFalls_walk (v : Value) (q : List (Value × Sh)) (a b c a' b' c' : Int) (w : World) (hs : ShsI w v q) (hq : ∀ y ∈ q, y.2.ms.length ≤ 17592186044416) : Calls Try.prog 3 #[v, .agg #[.int .i64 a, .int .i64 b, .int .i64 c, .int .i64 a', .int .i64 b', .int .i64 c']] w fun e w' => e = .returned (.bool true) ∧ Below w.heap.size w w' := by
  obtain ⟨ad, cap, rfl⟩ : ∃ ad cap, v = .slice ad q.length cap := by
    rcases hs.1 with ⟨ad, cap, e, e2⟩ | ⟨g, off, cap, e, _⟩
    · exact ⟨ad, cap, by rw [e, e2]; rfl⟩
    · exact ⟨_, _, e⟩
  have CEL : Hid (∀ (k : Nat) (h : k < q.length), ∃ g off, ad = some ⟨g, off, none⟩ ∧ ∀ W, Below w.heap.size w W → W.cell? ⟨g, off + k * 4, none⟩ = some (.int .i64 q[k].2.ix) ∧ W.cell? ⟨g, off + k * 4 + 1, none⟩ = some (.int .i64 q[k].2.tm) ∧ W.cell? ⟨g, off + k * 4 + 2, none⟩ = some q[k].1 ∧ W.cell? ⟨g, off + k * 4 + 3, none⟩ = some (.string q[k].2.da)) := by
    intro k h
    rcases hs.1 with ⟨ad', cap', e, e2⟩ | ⟨g, off, cap', e, hg, hc⟩
    · rw [e2] at h; simp at h
    · injection e with e1 e2 e3
      exact ⟨g, off, e1, fun W hW => ⟨(hW.cell hg).trans (hc k h 0 (by omega)), (hW.cell hg).trans (hc k h 1 (by omega)), (hW.cell hg).trans (hc k h 2 (by omega)), (hW.cell hg).trans (hc k h 3 (by omega))⟩⟩
  have INT : Hid (∀ (k : Nat) (h : k < q.length), IntsI w q[k].1 q[k].2.ms ∧ q[k].2.ms.length ≤ 17592186044416) := fun k h => ⟨hs.2 _ (List.getElem_mem h), hq _ (List.getElem_mem h)⟩
  obtain ⟨t, hat, t0, t16⟩ := at16 a
  have HT : Hid (0 ≤ t ∧ t < 16) := ⟨t0, t16⟩
  have HAT := hid hat
  have NW : Hid (Calls Try.prog 5 #[] (w.alloc (.cells #[.int .i64 a, .int .i64 b, .int .i64 c, .int .i64 a', .int .i64 b', .int .i64 c'] 25)) fun e w' => e = .returned (.pointer (some ⟨w.heap.size + 1, 0, none⟩)) ∧ DiskIs w' (c0 (w.heap.size + 1)) (w.heap.size + 1) d0 ∧ Keep (fun _ => False) w w' ∧ RowIs w' w.heap.size [.int .i64 a, .int .i64 b, .int .i64 c, .int .i64 a', .int .i64 b', .int .i64 c'] 25) := by
    have hz : (w.alloc (.cells #[.int .i64 a, .int .i64 b, .int .i64 c, .int .i64 a', .int .i64 b', .int .i64 c'] 25)).heap.size = w.heap.size + 1 := by simp
    have := new_any (w.alloc (.cells #[.int .i64 a, .int .i64 b, .int .i64 c, .int .i64 a', .int .i64 b', .int .i64 c'] 25))
    rw [hz] at this
    exact this.mono fun e w' ⟨he, hD, hk⟩ => ⟨he, hD, (keep_alloc _ _ _).trans hk, (srow w [.int .i64 a, .int .i64 b, .int .i64 c, .int .i64 a', .int .i64 b', .int .i64 c'] 25).keep hk (fun h => h)⟩
  obtain ⟨p, hp⟩ : ∃ p, p = w.heap.size + 1 := ⟨_, rfl⟩
  have HP : Hid (p = w.heap.size + 1) := hp
  rw [← hp] at NW
  have AW := hid (fun W => awake7 W)
  have RF : Hid (∀ (ad : Option Addr) (m cap : Nat) (i j : Int) (d : ByteArray) W, Calls Try.prog 10 #[.agg #[.int .i64 i, .int .i64 j, .slice ad m cap, .string d]] W fun e w' => e = .returned (.agg #[.int .i64 i, .int .i64 j, .slice ad m cap, .string d]) ∧ Below W.heap.size W w') := fun ad m cap i j d W => refOf_any ad m cap ⟨i, j, [], d⟩ W
  clear hs hq hp t0 t16 hat
  go_enter Try.func3, Try.ntmps3
  go_wp2_with fail
  refine NW.out.mono ?_
  rintro e w1 ⟨rfl, hD, hk, hr⟩
  have HK := hid hk
  have HR := hid hr
  have L1 : Hid (Left w1 (c0 p) p (faD none none 0 [] false) w1) := left_same hD (Keep.refl _ _)
  have HNE : Hid (w.heap.size ≠ p) := by show _ ≠ _; rw [HP.out]; omega
  have HG : Hid (∀ W d, Left w1 (c0 p) p d W → RowIs W w.heap.size [.int .i64 a, .int .i64 b, .int .i64 c, .int .i64 a', .int .i64 b', .int .i64 c'] 25) := fun W d hL => HR.out.keep hL.2 (fun e => by
    have e' : (if w.heap.size = p then 0 else 7) < 6 := e
    rw [if_neg HNE.out] at e'
    omega)
  have HB : Hid (∀ W y0 y1 d b6 b7, FaM w1 p b6 b7 y0 y1 d W → Below w.heap.size w W) := fun W y0 y1 d b6 b7 h => h.below HK.out (by have := HP.out; omega)
  clear hD hk hr NW
  go_wp2_with fail
  refine (AW.out _).mono ?_
  rintro e w2 ⟨rfl, hb⟩
  have L2 := hid (L1.out.keepR (hb.keep _))
  clear hb L1
  have G2 := hid (HG.out _ _ L2.out)
  have hat := HAT.out
  have d0 := G2.out.cellAt (o := 0) rfl
  have d1 := G2.out.cellAt (o := 1) rfl
  have d2 := G2.out.cellAt (o := 2) rfl
  have PL : Hid (∀ v, v = Value.slice (some ⟨w2.heap.size, 0, none⟩) 1 1 → Calls Try.prog 7 #[.pointer (some ⟨p, 0, none⟩), v] (w2.alloc (.cells #[.int .i64 t, .int .i64 b, .int .i64 c] 24)) fun e w' => e = .returned (.tuple #[]) ∧ Left w1 (c0 p) p (faD none none 0 [⟨t, b, c⟩] false) w') := fun v hv => by
    subst hv
    have L3 := L2.out.keepR (keep_alloc (fun _ => False) w2 (.cells #[.int .i64 t, .int .i64 b, .int .i64 c] 24))
    have r := srow w2 [.int .i64 t, .int .i64 b, .int .i64 c] 24
    have hlt : w2.heap.size ≠ p := by have h1 := HR.out.lt; have h2 := L2.out.2.size; obtain ⟨⟨ci, ⟨R, D⟩, _⟩, _⟩ := L2.out; have := D.row.lt; omega
    obtain ⟨⟨ci, D, hci⟩, KI⟩ := L3
    refine (plan_any p ci _ _ [⟨t, b, c⟩] _ D (.inr ⟨w2.heap.size, 0, 1, rfl, hlt, r.lt, fun j hj => ?_⟩) (by simp) (fun x hx => ?_)).mono fun e w' ⟨he, hL⟩ => ⟨he, Left.trans hci KI hL⟩
    · have hj0 : j = 0 := by simp at hj; omega
      subst hj0
      exact ⟨r.cellAt rfl, r.cellAt rfl, r.cellAt rfl⟩
    · have hx' : x = ⟨t, b, c⟩ := by simpa using hx
      subst hx'
      exact wf_small ⟨HT.out.1, by have := HT.out.2; show t ≤ 100000; omega⟩
  go_wp2_with fail
  refine (PL.out _ rfl).mono ?_
  rintro e w3 ⟨rfl, hL⟩
  have M3 := hid (FaM.new hL)
  clear PL L2 G2 d0 d1 d2 hL hat HAT
  go_upto_region 6 with fail
  have M4 : Hid (FaM w1 p w3.heap.size (w3.heap.size + 1) y00 y00 (faD none none 0 [⟨t, b, c⟩] false) ((w3.alloc (.cells #[.int .i64 0, .int .i64 0, .slice none 0 0, .string ⟨#[]⟩] 33)).alloc (.cells #[.int .i64 0, .int .i64 0, .slice none 0 0, .string ⟨#[]⟩] 33))) := M3.out
  clear M3
  have H67 : Hid (w3.heap.size < w3.heap.size + 1) := Nat.lt_succ_self _
  generalize (w3.alloc (.cells #[.int .i64 0, .int .i64 0, .slice none 0 0, .string ⟨#[]⟩] 33)).alloc (.cells #[.int .i64 0, .int .i64 0, .slice none 0 0, .string ⟨#[]⟩] 33) = w4 at *
  generalize w3.heap.size + 1 = b7 at *
  generalize w3.heap.size = b6 at *
  obtain ⟨f, hf⟩ : ∃ f : Fl, f = ⟨t, b, c⟩ := ⟨_, rfl⟩
  rw [← hf] at M4
  clear hf
  have I0 : Hid (FaI w w1 p b6 b7 f (.int .i64 0) w4) := ⟨0, y00, y00, _, rfl, by omega, M4, hid ⟨⟨ints_none w, Nat.zero_le _⟩, ints_none w, Nat.zero_le _⟩, hid (.inl ⟨none, 0, rfl, by omega, .inl ⟨rfl, rfl⟩, rfl⟩)⟩
  clear M4 HT
  go_wp2
  go_loopw [8] (fun i wr => Hid (FaI w w1 p b6 b7 f i wr)) (fun i _ => 8 - (intOf i).toNat)
  case atStart => exact I0
  case round =>
    clear I0
    obtain ⟨k, y0, y1, d, rfl, hk8, FM, IY, HV⟩ := hrel.out
    have HK8 := hid hk8
    clear hk8
    by_cases h1 : k < q.length
    · have n1 : decide ((k : Int) < (q.length : Int)) = true := decide_eq_true (by omega)
      have n1' : decide (k < q.length) = true := decide_eq_true h1
      by_cases h2 : k < 8
      · have n2 : decide ((k : Int) < 8) = true := decide_eq_true (by omega)
        have n2' : decide (k < 8) = true := decide_eq_true h2
        have DN : Hid (Calls Try.prog 8 #[.pointer (some ⟨p, 0, none⟩)] wr fun e w' => e = .returned (.bool d.dn) ∧ w' = wr) := fam_down FM.out
        obtain hdn | hdn : d.dn = false ∨ d.dn = true := by cases d.dn <;> simp
        · rw [hdn] at DN
          obtain ⟨g, off, hva, hcl⟩ := CEL.out k h1
          obtain ⟨hIk, hLk⟩ := INT.out k h1
          have HCL := hid hcl
          have HI := hid hIk
          have HL := hid hLk
          clear hcl hIk hLk CEL INT
          generalize q[k] = y at *
          obtain ⟨u, ix, tm, ms, da⟩ := y
          simp only at HCL HI HL
          obtain ⟨ua, uc, rfl, -⟩ := HI.out.form
          have SV : Hid (Calls Try.prog 9 #[.pointer (some ⟨p, 0, none⟩), .agg #[.int .i64 ix, .int .i64 tm, .slice ua ms.length uc, .string da]] wr fun e w' => ∃ r d', e = .returned (.int .i64 r) ∧ FaM w1 p b6 b7 y0 y1 (d') w' ∧ ((r = chkS ⟨ix, tm, ms, da⟩ ∧ r ≠ 0 ∧ r ≠ 21 ∧ FaV f (k + 1) y0.2 y1.2 d') ∨ (r = 0 ∧ FaV f (k + 1) ⟨ix, tm, ms, da⟩ ⟨ix, tm, ms, da⟩ d') ∨ (r = 21 ∧ FaV f (k + 1) y0.2 ⟨ix, tm, ms, da⟩ d'))) := fam_save (y := (.slice ua ms.length uc, ⟨ix, tm, ms, da⟩)) FM.out HV.out hdn h2 (HI.out.next (HB.out _ _ _ _ _ _ FM.out)) (by have := HL.out; show ms.length ≤ _; omega)
          have CK : Hid (∀ W, Below w.heap.size w W → Calls Try.prog 11 #[.agg #[.int .i64 ix, .int .i64 tm, .slice ua ms.length uc, .string da]] W fun e w' => e = .returned (.int .i64 (chkS ⟨ix, tm, ms, da⟩)) ∧ Below W.heap.size W w') := fun W hW => rcheck_any _ ⟨ix, tm, ms, da⟩ W (HI.out.next hW) (by have := HL.out; show ms.length ≤ _; omega)
          generalize chkS ⟨ix, tm, ms, da⟩ = K at *
          subst hva
          have B0 := HB.out _ _ _ _ _ _ FM.out
          obtain ⟨z0, z1, z2, z3⟩ := HCL.out _ B0
          clear B0 HV hdn
          have hk0 : (0 : Int) ≤ (k : Int) := by omega
          have hk1 : (k : Int) < (q.length : Int) := by omega
          have H2 := hid h2
          have HW : Hid (wrap64 ((k : Int) + 1) = (k : Int) + 1) := IntWalk.wrap64_in _ (by omega)
          clear h2
          go_wp2_with fail
          refine DN.out.mono ?_
          rintro e w5 ⟨rfl, rfl⟩
          clear DN
          go_wp2_with fail
          refine SV.out.mono ?_
          rintro e w6 ⟨r, d', rfl, hF, hcase⟩
          have F6 := hid hF
          have HC := hid hcase
          clear hF hcase SV FM z0 z1 z2 z3
          obtain ⟨z0, z1, z2, z3⟩ := HCL.out _ (HB.out _ _ _ _ _ _ F6.out)
          have IE := hid (show (IntsI w (.slice ua ms.length uc) ms ∧ ms.length ≤ 17592186044416) from ⟨HI.out, HL.out⟩)
          rcases HC.out with ⟨hr, h0, h21, hV⟩ | ⟨rfl, hV⟩ | ⟨rfl, hV⟩
          · have HV6 := hid hV
            clear hV HC
            have m0 : (r == 0) = false := beq_eq_false_iff_ne.2 h0
            have m21 : (r == 21) = false := beq_eq_false_iff_ne.2 h21
            clear h0 h21
            subst hr
            have mm : (r != r) = false := by simp
            go_wp2_with fail
            refine (RF.out _ _ _ _ _ _ _).mono ?_
            rintro e w7 ⟨rfl, hb⟩
            have F7 := hid (F6.out.on hb)
            clear hb F6 z0 z1 z2 z3
            go_wp2_with fail
            refine (CK.out _ (HB.out _ _ _ _ _ _ F7.out)).mono ?_
            rintro e w8 ⟨rfl, hb⟩
            have F8 := hid (F7.out.on hb)
            clear hb F7 CK
            go_wp2
            exact ⟨⟨k + 1, y0, y1, d', by rw [HW.out]; rfl, by have := H2.out; omega, F8, IY, HV6⟩, by have := H2.out; have hw := HW.out; rw [hw]; simp [intOf]; omega⟩
          · have HV6 := hid hV
            clear hV HC CK
            go_wp2_with fail
            refine (RF.out _ _ _ _ _ _ _).mono ?_
            rintro e w7 ⟨rfl, hb⟩
            have F7 := hid (F6.out.on hb)
            clear hb F6 z0 z1 z2 z3
            have c0 := F7.out.r6.cellAt (o := 0) rfl
            have c1 := F7.out.r6.cellAt (o := 1) rfl
            have c2 := F7.out.r6.cellAt (o := 2) rfl
            have c3 := F7.out.r6.cellAt (o := 3) rfl
            have q0 := F7.out.r6.frozen (o := 0)
            have q1 := F7.out.r6.frozen (o := 1)
            have q2 := F7.out.r6.frozen (o := 2)
            have q3 := F7.out.r6.frozen (o := 3)
            have F8 : Hid (FaM w1 p b6 b7 (.slice ua ms.length uc, ⟨ix, tm, ms, da⟩) y1 d' ((((w7.setCell ⟨b6, 0, none⟩ (.int .i64 ix)).setCell ⟨b6, 1, none⟩ (.int .i64 tm)).setCell ⟨b6, 2, none⟩ (.slice ua ms.length uc)).setCell ⟨b6, 3, none⟩ (.string da))) := F7.out.put6 (.slice ua ms.length uc, ⟨ix, tm, ms, da⟩)
            go_upto_region 12 with fail
            clear F7 c0 q0 c1 q1 c2 q2 c3 q3
            generalize ((((w7.setCell ⟨b6, 0, none⟩ (.int .i64 ix)).setCell ⟨b6, 1, none⟩ (.int .i64 tm)).setCell ⟨b6, 2, none⟩ (.slice ua ms.length uc)).setCell ⟨b6, 3, none⟩ (.string da)) = X at *
            have c0 := F8.out.r6.cellAt (o := 0) rfl
            have c1 := F8.out.r6.cellAt (o := 1) rfl
            have c2 := F8.out.r6.cellAt (o := 2) rfl
            have c3 := F8.out.r6.cellAt (o := 3) rfl
            have e0 := F8.out.r7.cellAt (o := 0) rfl
            have e1 := F8.out.r7.cellAt (o := 1) rfl
            have e2 := F8.out.r7.cellAt (o := 2) rfl
            have e3 := F8.out.r7.cellAt (o := 3) rfl
            have q0 := F8.out.r7.frozen (o := 0)
            have q1 := F8.out.r7.frozen (o := 1)
            have q2 := F8.out.r7.frozen (o := 2)
            have q3 := F8.out.r7.frozen (o := 3)
            have F9 : Hid (FaM w1 p b6 b7 (.slice ua ms.length uc, ⟨ix, tm, ms, da⟩) (.slice ua ms.length uc, ⟨ix, tm, ms, da⟩) d' ((((X.setCell ⟨b7, 0, none⟩ (.int .i64 ix)).setCell ⟨b7, 1, none⟩ (.int .i64 tm)).setCell ⟨b7, 2, none⟩ (.slice ua ms.length uc)).setCell ⟨b7, 3, none⟩ (.string da))) := F8.out.put7 (.slice ua ms.length uc, ⟨ix, tm, ms, da⟩)
            have hbn : ¬ b6 = b7 := F8.out.ne
            go_wp2
            exact ⟨⟨k + 1, (.slice ua ms.length uc, ⟨ix, tm, ms, da⟩), (.slice ua ms.length uc, ⟨ix, tm, ms, da⟩), d', by rw [HW.out]; rfl, by have := H2.out; omega, F9, hid ⟨IE.out, IE.out⟩, HV6⟩, by have := H2.out; have hw := HW.out; rw [hw]; simp [intOf]; omega⟩
          · have HV6 := hid hV
            clear hV HC CK
            go_wp2_with fail
            refine (RF.out _ _ _ _ _ _ _).mono ?_
            rintro e w7 ⟨rfl, hb⟩
            have F7 := hid (F6.out.on hb)
            clear hb F6 z0 z1 z2 z3
            have c0 := F7.out.r7.cellAt (o := 0) rfl
            have c1 := F7.out.r7.cellAt (o := 1) rfl
            have c2 := F7.out.r7.cellAt (o := 2) rfl
            have c3 := F7.out.r7.cellAt (o := 3) rfl
            have q0 := F7.out.r7.frozen (o := 0)
            have q1 := F7.out.r7.frozen (o := 1)
            have q2 := F7.out.r7.frozen (o := 2)
            have q3 := F7.out.r7.frozen (o := 3)
            have F8 : Hid (FaM w1 p b6 b7 y0 (.slice ua ms.length uc, ⟨ix, tm, ms, da⟩) d' ((((w7.setCell ⟨b7, 0, none⟩ (.int .i64 ix)).setCell ⟨b7, 1, none⟩ (.int .i64 tm)).setCell ⟨b7, 2, none⟩ (.slice ua ms.length uc)).setCell ⟨b7, 3, none⟩ (.string da))) := F7.out.put7 (.slice ua ms.length uc, ⟨ix, tm, ms, da⟩)
            go_wp2
            exact ⟨⟨k + 1, y0, (.slice ua ms.length uc, ⟨ix, tm, ms, da⟩), d', by rw [HW.out]; rfl, by have := H2.out; omega, F8, hid ⟨IY.out.1, IE.out⟩, HV6⟩, by have := H2.out; have hw := HW.out; rw [hw]; simp [intOf]; omega⟩
        · rw [hdn] at DN
          have HE : Hid (FaE y0.2 y1.2 d) := FaV.end_ HV.out HK8.out
          clear hdn
          have H2 := hid h2
          clear h2
          go_wp2_with fail
          refine DN.out.mono ?_
          rintro e w5 ⟨rfl, rfl⟩
          clear DN
          obtain ⟨A, B, m, fl, dn, hd0, hm, hB, hAS⟩ := HE.out
          subst hd0
          have hA := FaE.okA hAS
          have FL : Hid (∀ B fl dn k t W, OkB B → FaM w1 p b6 b7 y0 y1 (faD A B m fl dn) W → Calls Try.prog 12 #[.pointer (some ⟨p, 0, none⟩), .int .i64 k, .int .i64 t] W fun e w' => e = .returned (.tuple #[]) ∧ FaM w1 p b6 b7 y0 y1 (faD A B m fl true) w') := fun B fl dn k t W hB h => fam_fail h hA hB k t
          have UP : Hid (∀ B fl W, FaM w1 p b6 b7 y0 y1 (faD A B m fl true) W → Calls Try.prog 13 #[.pointer (some ⟨p, 0, none⟩)] W fun e w' => e = .returned (.bool true) ∧ FaM w1 p b6 b7 y0 y1 (faD A B m fl false) w') := fun B fl W h => fam_up h
          have CH : Hid (∀ B fl W, FaM w1 p b6 b7 y0 y1 (faD A B m fl false) W → Calls Try.prog 14 #[.pointer (some ⟨p, 0, none⟩)] W fun e w' => e = .returned (.int .i64 (m : Int)) ∧ Below W.heap.size W w') := fun B fl W h => fam_chg h
          have PN : Hid (∀ B fl dn W, FaM w1 p b6 b7 y0 y1 (faD A B m fl dn) W → Calls Try.prog 7 #[.pointer (some ⟨p, 0, none⟩), .slice none 0 0] W fun e w' => e = .returned (.tuple #[]) ∧ FaM w1 p b6 b7 y0 y1 (faD A B m [] dn) w') := fun B fl dn W h => fam_plan h (.slice none 0 0) [] (.inl ⟨none, 0, rfl, rfl⟩) (by simp) (fun x hx => by cases hx)
          have PX : Hid (∀ B fl W W', FaM w1 p b6 b7 y0 y1 (faD A B m fl false) W → W' = W.alloc (.cells #[.int .i64 (m : Int), .int .i64 b', .int .i64 c'] 24) → Calls Try.prog 7 #[.pointer (some ⟨p, 0, none⟩), .slice (some ⟨W.heap.size, 0, none⟩) 1 1] W' fun e w' => e = .returned (.tuple #[]) ∧ FaM w1 p b6 b7 y0 y1 (faD A B m [⟨(m : Int), b', c'⟩] false) w') := fun B fl W W' h hW' => by
            subst hW'
            have r := srow W [.int .i64 (m : Int), .int .i64 b', .int .i64 c'] 24
            have hlt : W.heap.size ≠ p := by obtain ⟨ci, ⟨R, D⟩, _⟩ := h.dk; have := D.row.lt; omega
            refine fam_plan (h.on ((Below.refl _ _).alloc (Nat.le_refl _) _)) _ [⟨(m : Int), b', c'⟩] (.inr ⟨W.heap.size, 0, 1, rfl, hlt, r.lt, fun j hj => ?_⟩) (by simp) (fun x hx => ?_)
            · have hj0 : j = 0 := by simp at hj; omega
              subst hj0
              exact ⟨r.cellAt rfl, r.cellAt rfl, r.cellAt rfl⟩
            · have hx' : x = ⟨(m : Int), b', c'⟩ := by simpa using hx
              subst hx'
              exact wf_small ⟨by show (0 : Int) ≤ (m : Int); omega, by show (m : Int) ≤ 100000; omega⟩
          have LA : Hid (∀ B W, OkB B → FaM w1 p b6 b7 y0 y1 (faD A B m [⟨(m : Int), b', c'⟩] false) W → Calls Try.prog 15 #[.pointer (some ⟨p, 0, none⟩)] W fun e w' => ∃ ad n cap i t s b k B' fl dn, e = .returned (.tuple #[.agg #[.int .i64 i, .int .i64 t, .slice ad n cap, .string s], .bool b, .int .i64 k]) ∧ FaM w1 p b6 b7 y0 y1 (faD A B' m fl dn) w' ∧ OkB B') := fun B W hB h => fam_load1 h rfl hA hB (by omega)
          obtain ⟨x, hx, hxx, hxl⟩ : ∃ x : Sh, FaS A x ∧ (x = y0.2 ∨ x = y1.2) ∧ x.ms.length ≤ 17592186044416 := by
            rcases hAS with h | h
            · exact ⟨_, h, .inl rfl, IY.out.1.2⟩
            · exact ⟨_, h, .inr rfl, IY.out.2.2⟩
          have LB : Hid (∀ B W, OkB B → FaM w1 p b6 b7 y0 y1 (faD A B m [] false) W → Calls Try.prog 15 #[.pointer (some ⟨p, 0, none⟩)] W fun e w' => ∃ ad cap n, e = .returned (.tuple #[.agg #[.int .i64 x.ix, .int .i64 x.tm, .slice ad x.ms.length cap, .string x.da], .bool (decide (0 < x.ms.length)), .int .i64 0]) ∧ IntsI w' (.slice ad x.ms.length cap) x.ms ∧ FaM w1 p b6 b7 y0 y1 (faD A none n [] false) w') := fun B W hB h => fam_load2 h hx hB (by omega)
          have HXX := hid hxx
          have HXL := hid hxl
          have HBB := hid hB
          clear hm hB hAS hA hx hxx hxl HE HV CEL INT
          have G0 := hid (FM.out.row HR.out HNE.out)
          have d1 := G0.out.cellAt (o := 1) rfl
          have d2 := G0.out.cellAt (o := 2) rfl
          go_wp2_with fail
          refine (FL.out _ _ _ _ _ _ HBB.out FM.out).mono ?_
          rintro e u1 ⟨rfl, hF⟩
          have F1 := hid hF
          clear hF FM G0 d1 d2
          go_wp2_with fail
          refine (UP.out _ _ _ F1.out).mono ?_
          rintro e u2 ⟨rfl, hF⟩
          have F2 := hid hF
          clear hF F1
          go_upto_region 19 with fail
          have ZC : Hid (∀ W, Below u2.heap.size u2 W → (fun w' => w'.cell? ⟨w.heap.size, 4, none⟩ = some (.int .i64 b') ∧ w'.cell? ⟨w.heap.size, 5, none⟩ = some (.int .i64 c')) W) := fun W hW => by
            have m1 := (F2.out.on hW).row HR.out HNE.out
            exact ⟨m1.cellAt (o := 4) rfl, m1.cellAt (o := 5) rfl⟩
          have D0 := hid (Below.refl u2.heap.size u2).drew
          have CHX : Hid (∀ W, Below u2.heap.size u2 W → Calls Try.prog 14 #[.pointer (some ⟨p, 0, none⟩)] W fun e w' => e = .returned (.int .i64 (m : Int)) ∧ Below W.heap.size W w') := fun W hW => CH.out _ _ W (F2.out.on hW)
          refine wp_region_held_drew (S := (fun w' => w'.cell? ⟨w.heap.size, 4, none⟩ = some (.int .i64 b') ∧ w'.cell? ⟨w.heap.size, 5, none⟩ = some (.int .i64 c'))) (by kernel_rfl) (ZC.out _ D0.out) (fun hHeld => ?_)
          refine wpAnyH_take (i := 0) (v := ?vv1) rfl (by kernel_rfl) (by kernel_rfl) (by kernel_rfl) (fun _ _ _ h => h) (Or.inl ⟨by rfl, ?hy1⟩) (by assumption) ?rest1
          case hy1 => (intro w hSw; (try dsimp only at hSw); go_simp; first | done | with_reducible rfl)
          try simp only [Act.put, List.getElem_toArray, List.getElem_cons_succ, List.getElem_cons_zero, List.setIfInBounds_toArray, List.set_cons_zero, List.set_cons_succ]
          refine wpAnyH_take (i := 1) (v := ?vv2) rfl (by kernel_rfl) (by kernel_rfl) (by kernel_rfl) (fun _ _ _ h => h) (Or.inl ⟨by rfl, ?hy2⟩) (by assumption) ?rest2
          case hy2 => (intro w hSw; (try dsimp only at hSw); go_simp; first | done | with_reducible rfl)
          try simp only [Act.put, List.getElem_toArray, List.getElem_cons_succ, List.getElem_cons_zero, List.setIfInBounds_toArray, List.set_cons_zero, List.set_cons_succ]
          refine wpAnyH_take (i := 3) (v := ?vv3) rfl (by kernel_rfl) (by kernel_rfl) (by kernel_rfl) (fun _ _ _ h => h) (Or.inl ⟨by rfl, ?hy3⟩) (by assumption) ?rest3
          case hy3 => (intro w hSw; (try dsimp only at hSw); go_simp; first | done | with_reducible rfl)
          try simp only [Act.put, List.getElem_toArray, List.getElem_cons_succ, List.getElem_cons_zero, List.setIfInBounds_toArray, List.set_cons_zero, List.set_cons_succ]
          refine wpAnyH_take (i := 4) (v := ?vv4) rfl (by kernel_rfl) (by kernel_rfl) (by kernel_rfl) (fun _ _ _ h => h) (Or.inl ⟨by rfl, ?hy4⟩) (by assumption) ?rest4
          case hy4 => (intro w hSw; (try dsimp only at hSw); go_simp; first | done | with_reducible rfl)
          try simp only [Act.put, List.getElem_toArray, List.getElem_cons_succ, List.getElem_cons_zero, List.setIfInBounds_toArray, List.set_cons_zero, List.set_cons_succ]
          refine wpAnyH_take (i := 5) (v := ?vv5) rfl (by kernel_rfl) (by kernel_rfl) (by kernel_rfl) (fun _ _ _ h => h) (Or.inl ⟨by rfl, ?hy5⟩) (by assumption) ?rest5
          case hy5 => (intro w hSw; (try dsimp only at hSw); go_simp; first | done | with_reducible rfl)
          try simp only [Act.put, List.getElem_toArray, List.getElem_cons_succ, List.getElem_cons_zero, List.setIfInBounds_toArray, List.set_cons_zero, List.set_cons_succ]
          refine wpAnyH_take (i := 6) (v := ?vv6) rfl (by kernel_rfl) (by kernel_rfl) (by kernel_rfl) (fun _ _ _ h => h) (Or.inl ⟨by rfl, ?hy6⟩) (by assumption) ?rest6
          case hy6 => (intro w hSw; (try dsimp only at hSw); go_simp; first | done | with_reducible rfl)
          try simp only [Act.put, List.getElem_toArray, List.getElem_cons_succ, List.getElem_cons_zero, List.setIfInBounds_toArray, List.set_cons_zero, List.set_cons_succ]
          refine wpAnyH_take (i := 7) (v := ?vv7) rfl (by kernel_rfl) (by kernel_rfl) (by kernel_rfl) (fun _ _ _ h => h) (Or.inl ⟨by rfl, ?hy7⟩) (by assumption) ?rest7
          case hy7 => (intro w hSw; (try dsimp only at hSw); go_simp; first | done | with_reducible rfl)
          try simp only [Act.put, List.getElem_toArray, List.getElem_cons_succ, List.getElem_cons_zero, List.setIfInBounds_toArray, List.set_cons_zero, List.set_cons_succ]
          refine wpAnyH_take (i := 8) (v := ?vv8) rfl (by kernel_rfl) (by kernel_rfl) (by kernel_rfl) (fun _ _ _ h => h) (Or.inl ⟨by rfl, ?hy8⟩) (by assumption) ?rest8
          case hy8 => (intro w hSw; (try dsimp only at hSw); go_simp; first | done | with_reducible rfl)
          try simp only [Act.put, List.getElem_toArray, List.getElem_cons_succ, List.getElem_cons_zero, List.setIfInBounds_toArray, List.set_cons_zero, List.set_cons_succ]
          refine wpAnyH_ready (rs := [2]) (by kernel_rfl) (by simp) ?_
          refine AllReadyH.cons rfl (fun K hK => ?_) AllReadyH.nil
          go_simp
          refine (CHX.out _ D0.out).mono ?_
          rintro e wq1 ⟨rfl, bq⟩
          have BQ1 := hid (below_on D0.out bq)
          clear bq hHeld
          go_wp2_with fail
          refine hK.out _ _ (ZC.out _ BQ1.out) (fun hHeld => ?_)
          clear hK K
          try simp only [Act.put, List.getElem_toArray, List.getElem_cons_succ, List.getElem_cons_zero, List.setIfInBounds_toArray, List.set_cons_zero, List.set_cons_succ]
          refine wpAnyH_take (i := 9) (v := ?vv9) rfl (by kernel_rfl) (by kernel_rfl) (by kernel_rfl) (fun _ _ _ h => h) (Or.inl ⟨by rfl, ?hy9⟩) (by assumption) ?rest9
          case hy9 => (intro w hSw; (try dsimp only at hSw); go_simp; first | done | with_reducible rfl)
          try simp only [Act.put, List.getElem_toArray, List.getElem_cons_succ, List.getElem_cons_zero, List.setIfInBounds_toArray, List.set_cons_zero, List.set_cons_succ]
          refine wpAnyH_ready (rs := [10]) (by kernel_rfl) (by simp) ?_
          refine AllReadyH.cons rfl (fun K hK => ?_) AllReadyH.nil
          go_simp
          refine hK.out _ _ (ZC.out _ (below_al BQ1.out _)) (fun hHeld => ?_)
          clear hK K
          try simp only [Act.put, List.getElem_toArray, List.getElem_cons_succ, List.getElem_cons_zero, List.setIfInBounds_toArray, List.set_cons_zero, List.set_cons_succ]
          refine wpAnyH_ready (rs := [11]) (by kernel_rfl) (by simp) ?_
          refine AllReadyH.cons rfl (fun K hK => ?_) AllReadyH.nil
          go_simp
          refine (PX.out _ _ wq1 _ (F2.out.on BQ1.out) rfl).mono ?_
          rintro e u3 ⟨rfl, hF⟩
          have F3 := hid hF
          have m3 := F3.out.row HR.out HNE.out
          have ZC3 := And.intro (m3.cellAt (o := 4) rfl) (m3.cellAt (o := 5) rfl)
          clear hF m3
          go_wp2_with fail
          refine hK.out _ _ ZC3 (fun hHeld => ?_)
          clear hK K
          try simp only [Act.put, List.getElem_toArray, List.getElem_cons_succ, List.getElem_cons_zero, List.setIfInBounds_toArray, List.set_cons_zero, List.set_cons_succ]
          refine wpAnyH_done (by kernel_rfl) ?_ _
          clear hHeld ZC3 ZC CH CHX PX F2 D0 BQ1
          go_wp2_with fail
          refine (LA.out _ _ HBB.out F3.out).mono ?_
          rintro e u4 ⟨la, ln, lc, li, lt, lz, lb, lk, B', fl', dn', rfl, hF, hB⟩
          have F4 := hid hF
          have HB4 := hid hB
          clear hF hB F3 LA HBB
          go_wp2_with fail
          refine (PN.out _ _ _ _ F4.out).mono ?_
          rintro e u5 ⟨rfl, hF⟩
          have F5 := hid hF
          clear hF F4 PN
          have G0 := hid (F5.out.row HR.out HNE.out)
          have d1 := G0.out.cellAt (o := 4) rfl
          have d2 := G0.out.cellAt (o := 5) rfl
          go_wp2_with fail
          refine (FL.out _ _ _ _ _ _ HB4.out F5.out).mono ?_
          rintro e u6 ⟨rfl, hF⟩
          have F6 := hid hF
          clear hF F5 G0 d1 d2 FL
          go_wp2_with fail
          refine (UP.out _ _ _ F6.out).mono ?_
          rintro e u7 ⟨rfl, hF⟩
          have F7 := hid hF
          clear hF F6 UP
          go_wp2_with fail
          refine (LB.out _ _ HB4.out F7.out).mono ?_
          rintro e u8 ⟨sa, sc, n8, rfl, hI, hF⟩
          have F8 := hid hF
          have I8 := hid hI
          clear hF hI F7 LB HB4
          obtain ⟨ix, tm, ms, da⟩ := x
          simp only at *
          have AL := hid (below_al (Below.refl u8.heap.size u8) (.cells #[.int .i64 ix, .int .i64 tm, .slice sa ms.length sc, .string da] 36))
          have R9 : Hid (RowIs (u8.alloc (.cells #[.int .i64 ix, .int .i64 tm, .slice sa ms.length sc, .string da] 36)) u8.heap.size [.int .i64 ix, .int .i64 tm, .slice sa ms.length sc, .string da] 36) := srow u8 _ _
          have F9 := hid (F8.out.on AL.out)
          have I9 := hid (I8.out.next AL.out)
          clear F8 I8 AL
          have hbi : decide ((0 : Int) < (ms.length : Int)) = decide (0 < ms.length) := by by_cases h : 0 < ms.length <;> simp [h]
          have hbj : decide ((ms.length : Int) > 0) = decide (0 < ms.length) := by by_cases h : 0 < ms.length <;> simp [h]
          generalize hbn : decide (0 < ms.length) = bb at *
          have hbb : (!bb == bb) = false := by cases bb <;> rfl
          have hbc : (bb != bb) = false := by cases bb <;> rfl
          go_upto_region 27 with fail
          clear hbi hbj hbb hbc hbn
          generalize u8.alloc (.cells #[.int .i64 ix, .int .i64 tm, .slice sa ms.length sc, .string da] 36) = X at *
          generalize u8.heap.size = qs at *
          obtain ⟨v0, i0, t0, m0, s0⟩ := y0
          obtain ⟨v1, i1, t1, m1, s1⟩ := y1
          simp only at *
          obtain ⟨a0, k0, rfl, -⟩ := IY.out.1.1.form
          obtain ⟨a1, k1, rfl, -⟩ := IY.out.2.1.form
          have BW := hid (HB.out _ _ _ _ _ _ F9.out)
          have ZC : Hid (∀ W, Below X.heap.size X W → (fun w' => w'.cell? ⟨qs, 0, none⟩ = some (.int .i64 ix) ∧ w'.cell? ⟨qs, 1, none⟩ = some (.int .i64 tm) ∧ w'.cell? ⟨qs, 2, none⟩ = some (.slice sa ms.length sc) ∧ w'.cell? ⟨qs, 3, none⟩ = some (.string da) ∧ w'.cell? ⟨b6, 0, none⟩ = some (.int .i64 i0) ∧ w'.cell? ⟨b6, 1, none⟩ = some (.int .i64 t0) ∧ w'.cell? ⟨b6, 2, none⟩ = some (.slice a0 m0.length k0) ∧ w'.cell? ⟨b6, 3, none⟩ = some (.string s0) ∧ w'.cell? ⟨b7, 0, none⟩ = some (.int .i64 i1) ∧ w'.cell? ⟨b7, 1, none⟩ = some (.int .i64 t1) ∧ w'.cell? ⟨b7, 2, none⟩ = some (.slice a1 m1.length k1) ∧ w'.cell? ⟨b7, 3, none⟩ = some (.string s1)) W) := fun W hW => by
            have m1 := R9.out.keep (hW.keep (fun _ => False)) (fun h => h)
            have m2 := (F9.out.on hW).r6
            have m3 := (F9.out.on hW).r7
            exact ⟨m1.cellAt rfl, m1.cellAt rfl, m1.cellAt rfl, m1.cellAt rfl, m2.cellAt rfl, m2.cellAt rfl, m2.cellAt rfl, m2.cellAt rfl, m3.cellAt rfl, m3.cellAt rfl, m3.cellAt rfl, m3.cellAt rfl⟩
          have RFX : Hid (∀ W, Below X.heap.size X W → Calls Try.prog 10 #[.agg #[.int .i64 ix, .int .i64 tm, .slice sa ms.length sc, .string da]] W fun e w' => e = .returned (.agg #[.int .i64 ix, .int .i64 tm, .slice sa ms.length sc, .string da]) ∧ Below W.heap.size W w') := fun W _ => RF.out _ _ _ _ _ _ W
          have SM1 : Hid (∀ W, Below X.heap.size X W → Calls Try.prog 16 #[.agg #[.int .i64 ix, .int .i64 tm, .slice sa ms.length sc, .string da], .agg #[.int .i64 i0, .int .i64 t0, .slice a0 m0.length k0, .string s0]] W fun e w' => e = .returned (.bool (smS ⟨ix, tm, ms, da⟩ ⟨i0, t0, m0, s0⟩)) ∧ Below W.heap.size W w') := fun W hW => rsame_any _ _ ⟨ix, tm, ms, da⟩ ⟨i0, t0, m0, s0⟩ W (I9.out.next hW) (IY.out.1.1.next (below_on BW.out hW)) (by have := HXL.out; show ms.length ≤ _; omega)
          have SM2 : Hid (∀ W, Below X.heap.size X W → Calls Try.prog 16 #[.agg #[.int .i64 ix, .int .i64 tm, .slice sa ms.length sc, .string da], .agg #[.int .i64 i1, .int .i64 t1, .slice a1 m1.length k1, .string s1]] W fun e w' => e = .returned (.bool (smS ⟨ix, tm, ms, da⟩ ⟨i1, t1, m1, s1⟩)) ∧ Below W.heap.size W w') := fun W hW => rsame_any _ _ ⟨ix, tm, ms, da⟩ ⟨i1, t1, m1, s1⟩ W (I9.out.next hW) (IY.out.2.1.next (below_on BW.out hW)) (by have := HXL.out; show ms.length ≤ _; omega)
          have HOR : Hid (smS ⟨ix, tm, ms, da⟩ ⟨i0, t0, m0, s0⟩ = false → smS ⟨ix, tm, ms, da⟩ ⟨i1, t1, m1, s1⟩ = true) := fun h => by
            rcases HXX.out with e | e
            · rw [e] at h; simp [smS] at h
            · rw [e]; simp [smS]
          generalize smS ⟨ix, tm, ms, da⟩ ⟨i0, t0, m0, s0⟩ = B1 at *
          generalize smS ⟨ix, tm, ms, da⟩ ⟨i1, t1, m1, s1⟩ = B2 at *
          have D0 := hid (Below.refl X.heap.size X).drew
          clear RF R9 F9 I9 IY HXX HXL AW HR
          cases B1 with
          | true =>
            refine wp_region_held_drew (S := (fun w' => w'.cell? ⟨qs, 0, none⟩ = some (.int .i64 ix) ∧ w'.cell? ⟨qs, 1, none⟩ = some (.int .i64 tm) ∧ w'.cell? ⟨qs, 2, none⟩ = some (.slice sa ms.length sc) ∧ w'.cell? ⟨qs, 3, none⟩ = some (.string da) ∧ w'.cell? ⟨b6, 0, none⟩ = some (.int .i64 i0) ∧ w'.cell? ⟨b6, 1, none⟩ = some (.int .i64 t0) ∧ w'.cell? ⟨b6, 2, none⟩ = some (.slice a0 m0.length k0) ∧ w'.cell? ⟨b6, 3, none⟩ = some (.string s0) ∧ w'.cell? ⟨b7, 0, none⟩ = some (.int .i64 i1) ∧ w'.cell? ⟨b7, 1, none⟩ = some (.int .i64 t1) ∧ w'.cell? ⟨b7, 2, none⟩ = some (.slice a1 m1.length k1) ∧ w'.cell? ⟨b7, 3, none⟩ = some (.string s1))) (by kernel_rfl) (ZC.out _ D0.out) (fun hHeld => ?_)
            refine wpAnyH_take (i := 0) (v := ?vv10) rfl (by kernel_rfl) (by kernel_rfl) (by kernel_rfl) (fun _ _ _ h => h) (Or.inl ⟨by rfl, ?hy10⟩) (by assumption) ?rest10
            case hy10 => (intro w hSw; (try dsimp only at hSw); go_simp; first | done | with_reducible rfl)
            try simp only [Act.put, List.getElem_toArray, List.getElem_cons_succ, List.getElem_cons_zero, List.setIfInBounds_toArray, List.set_cons_zero, List.set_cons_succ]
            refine wpAnyH_take (i := 2) (v := ?vv11) rfl (by kernel_rfl) (by kernel_rfl) (by kernel_rfl) (fun _ _ _ h => h) (Or.inl ⟨by rfl, ?hy11⟩) (by assumption) ?rest11
            case hy11 => (intro w hSw; (try dsimp only at hSw); go_simp; first | done | with_reducible rfl)
            try simp only [Act.put, List.getElem_toArray, List.getElem_cons_succ, List.getElem_cons_zero, List.setIfInBounds_toArray, List.set_cons_zero, List.set_cons_succ]
            refine wpAnyH_ready (rs := [1]) (by kernel_rfl) (by simp) ?_
            refine AllReadyH.cons rfl (fun K hK => ?_) AllReadyH.nil
            go_simp
            refine (RFX.out _ D0.out).mono ?_
            rintro e wq2 ⟨rfl, bq⟩
            have BQ2 := hid (below_on D0.out bq)
            clear bq hHeld
            go_wp2_with fail
            refine hK.out _ _ (ZC.out _ BQ2.out) (fun hHeld => ?_)
            clear hK K
            try simp only [Act.put, List.getElem_toArray, List.getElem_cons_succ, List.getElem_cons_zero, List.setIfInBounds_toArray, List.set_cons_zero, List.set_cons_succ]
            refine wpAnyH_ready (rs := [3]) (by kernel_rfl) (by simp) ?_
            refine AllReadyH.cons rfl (fun K hK => ?_) AllReadyH.nil
            go_simp
            refine (SM1.out _ BQ2.out).mono ?_
            rintro e wq3 ⟨rfl, bq⟩
            have BQ3 := hid (below_on BQ2.out bq)
            clear bq hHeld
            go_wp2_with fail
            refine hK.out _ _ (ZC.out _ BQ3.out) (fun hHeld => ?_)
            clear hK K
            try simp only [Act.put, List.getElem_toArray, List.getElem_cons_succ, List.getElem_cons_zero, List.setIfInBounds_toArray, List.set_cons_zero, List.set_cons_succ]
            refine wpAnyH_take (i := 4) (v := ?vv12) rfl (by kernel_rfl) (by kernel_rfl) (by kernel_rfl) (fun _ _ _ h => h) (Or.inl ⟨by rfl, ?hy12⟩) (by assumption) ?rest12
            case hy12 => (intro w hSw; (try dsimp only at hSw); go_simp; first | done | with_reducible rfl)
            try simp only [Act.put, List.getElem_toArray, List.getElem_cons_succ, List.getElem_cons_zero, List.setIfInBounds_toArray, List.set_cons_zero, List.set_cons_succ]
            refine wpAnyH_take (i := 5) (v := undef) rfl (by kernel_rfl) (by kernel_rfl) (by kernel_rfl) (fun _ _ _ h => h) (Or.inr ⟨by rfl, rfl⟩) (by assumption) ?_
            try simp only [Act.put, List.getElem_toArray, List.getElem_cons_succ, List.getElem_cons_zero, List.setIfInBounds_toArray, List.set_cons_zero, List.set_cons_succ]
            refine wpAnyH_take (i := 6) (v := undef) rfl (by kernel_rfl) (by kernel_rfl) (by kernel_rfl) (fun _ _ _ h => h) (Or.inr ⟨by rfl, rfl⟩) (by assumption) ?_
            try simp only [Act.put, List.getElem_toArray, List.getElem_cons_succ, List.getElem_cons_zero, List.setIfInBounds_toArray, List.set_cons_zero, List.set_cons_succ]
            refine wpAnyH_take (i := 7) (v := undef) rfl (by kernel_rfl) (by kernel_rfl) (by kernel_rfl) (fun _ _ _ h => h) (Or.inr ⟨by rfl, rfl⟩) (by assumption) ?_
            try simp only [Act.put, List.getElem_toArray, List.getElem_cons_succ, List.getElem_cons_zero, List.setIfInBounds_toArray, List.set_cons_zero, List.set_cons_succ]
            refine wpAnyH_take (i := 8) (v := undef) rfl (by kernel_rfl) (by kernel_rfl) (by kernel_rfl) (fun _ _ _ h => h) (Or.inr ⟨by rfl, rfl⟩) (by assumption) ?_
            try simp only [Act.put, List.getElem_toArray, List.getElem_cons_succ, List.getElem_cons_zero, List.setIfInBounds_toArray, List.set_cons_zero, List.set_cons_succ]
            refine wpAnyH_take (i := 9) (v := ?vv13) rfl (by kernel_rfl) (by kernel_rfl) (by kernel_rfl) (fun _ _ _ h => h) (Or.inl ⟨by rfl, ?hy13⟩) (by assumption) ?rest13
            case hy13 => (intro w hSw; (try dsimp only at hSw); go_simp; first | done | with_reducible rfl)
            try simp only [Act.put, List.getElem_toArray, List.getElem_cons_succ, List.getElem_cons_zero, List.setIfInBounds_toArray, List.set_cons_zero, List.set_cons_succ]
            refine wpAnyH_take (i := 10) (v := ?vv14) rfl (by kernel_rfl) (by kernel_rfl) (by kernel_rfl) (fun _ _ _ h => h) (Or.inl ⟨by rfl, ?hy14⟩) (by assumption) ?rest14
            case hy14 => (intro w hSw; (try dsimp only at hSw); go_simp; first | done | with_reducible rfl)
            try simp only [Act.put, List.getElem_toArray, List.getElem_cons_succ, List.getElem_cons_zero, List.setIfInBounds_toArray, List.set_cons_zero, List.set_cons_succ]
            refine wpAnyH_done (by kernel_rfl) ?_ _
            clear hHeld ZC
            go_wp2
            go_ret
            exact ⟨rfl, below_on BW.out BQ3.out⟩
          | false =>
            have hb2 : B2 = true := HOR.out rfl
            subst hb2
            clear HOR
            refine wp_region_held_drew (S := (fun w' => w'.cell? ⟨qs, 0, none⟩ = some (.int .i64 ix) ∧ w'.cell? ⟨qs, 1, none⟩ = some (.int .i64 tm) ∧ w'.cell? ⟨qs, 2, none⟩ = some (.slice sa ms.length sc) ∧ w'.cell? ⟨qs, 3, none⟩ = some (.string da) ∧ w'.cell? ⟨b6, 0, none⟩ = some (.int .i64 i0) ∧ w'.cell? ⟨b6, 1, none⟩ = some (.int .i64 t0) ∧ w'.cell? ⟨b6, 2, none⟩ = some (.slice a0 m0.length k0) ∧ w'.cell? ⟨b6, 3, none⟩ = some (.string s0) ∧ w'.cell? ⟨b7, 0, none⟩ = some (.int .i64 i1) ∧ w'.cell? ⟨b7, 1, none⟩ = some (.int .i64 t1) ∧ w'.cell? ⟨b7, 2, none⟩ = some (.slice a1 m1.length k1) ∧ w'.cell? ⟨b7, 3, none⟩ = some (.string s1))) (by kernel_rfl) (ZC.out _ D0.out) (fun hHeld => ?_)
            refine wpAnyH_take (i := 0) (v := ?vv15) rfl (by kernel_rfl) (by kernel_rfl) (by kernel_rfl) (fun _ _ _ h => h) (Or.inl ⟨by rfl, ?hy15⟩) (by assumption) ?rest15
            case hy15 => (intro w hSw; (try dsimp only at hSw); go_simp; first | done | with_reducible rfl)
            try simp only [Act.put, List.getElem_toArray, List.getElem_cons_succ, List.getElem_cons_zero, List.setIfInBounds_toArray, List.set_cons_zero, List.set_cons_succ]
            refine wpAnyH_take (i := 2) (v := ?vv16) rfl (by kernel_rfl) (by kernel_rfl) (by kernel_rfl) (fun _ _ _ h => h) (Or.inl ⟨by rfl, ?hy16⟩) (by assumption) ?rest16
            case hy16 => (intro w hSw; (try dsimp only at hSw); go_simp; first | done | with_reducible rfl)
            try simp only [Act.put, List.getElem_toArray, List.getElem_cons_succ, List.getElem_cons_zero, List.setIfInBounds_toArray, List.set_cons_zero, List.set_cons_succ]
            refine wpAnyH_ready (rs := [1]) (by kernel_rfl) (by simp) ?_
            refine AllReadyH.cons rfl (fun K hK => ?_) AllReadyH.nil
            go_simp
            refine (RFX.out _ D0.out).mono ?_
            rintro e wq4 ⟨rfl, bq⟩
            have BQ4 := hid (below_on D0.out bq)
            clear bq hHeld
            go_wp2_with fail
            refine hK.out _ _ (ZC.out _ BQ4.out) (fun hHeld => ?_)
            clear hK K
            try simp only [Act.put, List.getElem_toArray, List.getElem_cons_succ, List.getElem_cons_zero, List.setIfInBounds_toArray, List.set_cons_zero, List.set_cons_succ]
            refine wpAnyH_ready (rs := [3]) (by kernel_rfl) (by simp) ?_
            refine AllReadyH.cons rfl (fun K hK => ?_) AllReadyH.nil
            go_simp
            refine (SM1.out _ BQ4.out).mono ?_
            rintro e wq5 ⟨rfl, bq⟩
            have BQ5 := hid (below_on BQ4.out bq)
            clear bq hHeld
            go_wp2_with fail
            refine hK.out _ _ (ZC.out _ BQ5.out) (fun hHeld => ?_)
            clear hK K
            try simp only [Act.put, List.getElem_toArray, List.getElem_cons_succ, List.getElem_cons_zero, List.setIfInBounds_toArray, List.set_cons_zero, List.set_cons_succ]
            refine wpAnyH_take (i := 4) (v := ?vv17) rfl (by kernel_rfl) (by kernel_rfl) (by kernel_rfl) (fun _ _ _ h => h) (Or.inl ⟨by rfl, ?hy17⟩) (by assumption) ?rest17
            case hy17 => (intro w hSw; (try dsimp only at hSw); go_simp; first | done | with_reducible rfl)
            try simp only [Act.put, List.getElem_toArray, List.getElem_cons_succ, List.getElem_cons_zero, List.setIfInBounds_toArray, List.set_cons_zero, List.set_cons_succ]
            refine wpAnyH_take (i := 5) (v := ?vv18) rfl (by kernel_rfl) (by kernel_rfl) (by kernel_rfl) (fun _ _ _ h => h) (Or.inl ⟨by rfl, ?hy18⟩) (by assumption) ?rest18
            case hy18 => (intro w hSw; (try dsimp only at hSw); go_simp; first | done | with_reducible rfl)
            try simp only [Act.put, List.getElem_toArray, List.getElem_cons_succ, List.getElem_cons_zero, List.setIfInBounds_toArray, List.set_cons_zero, List.set_cons_succ]
            refine wpAnyH_take (i := 7) (v := ?vv19) rfl (by kernel_rfl) (by kernel_rfl) (by kernel_rfl) (fun _ _ _ h => h) (Or.inl ⟨by rfl, ?hy19⟩) (by assumption) ?rest19
            case hy19 => (intro w hSw; (try dsimp only at hSw); go_simp; first | done | with_reducible rfl)
            try simp only [Act.put, List.getElem_toArray, List.getElem_cons_succ, List.getElem_cons_zero, List.setIfInBounds_toArray, List.set_cons_zero, List.set_cons_succ]
            refine wpAnyH_ready (rs := [6]) (by kernel_rfl) (by simp) ?_
            refine AllReadyH.cons rfl (fun K hK => ?_) AllReadyH.nil
            go_simp
            refine (RFX.out _ BQ5.out).mono ?_
            rintro e wq6 ⟨rfl, bq⟩
            have BQ6 := hid (below_on BQ5.out bq)
            clear bq hHeld
            go_wp2_with fail
            refine hK.out _ _ (ZC.out _ BQ6.out) (fun hHeld => ?_)
            clear hK K
            try simp only [Act.put, List.getElem_toArray, List.getElem_cons_succ, List.getElem_cons_zero, List.setIfInBounds_toArray, List.set_cons_zero, List.set_cons_succ]
            refine wpAnyH_ready (rs := [8]) (by kernel_rfl) (by simp) ?_
            refine AllReadyH.cons rfl (fun K hK => ?_) AllReadyH.nil
            go_simp
            refine (SM2.out _ BQ6.out).mono ?_
            rintro e wq7 ⟨rfl, bq⟩
            have BQ7 := hid (below_on BQ6.out bq)
            clear bq hHeld
            go_wp2_with fail
            refine hK.out _ _ (ZC.out _ BQ7.out) (fun hHeld => ?_)
            clear hK K
            try simp only [Act.put, List.getElem_toArray, List.getElem_cons_succ, List.getElem_cons_zero, List.setIfInBounds_toArray, List.set_cons_zero, List.set_cons_succ]
            refine wpAnyH_take (i := 9) (v := ?vv20) rfl (by kernel_rfl) (by kernel_rfl) (by kernel_rfl) (fun _ _ _ h => h) (Or.inl ⟨by rfl, ?hy20⟩) (by assumption) ?rest20
            case hy20 => (intro w hSw; (try dsimp only at hSw); go_simp; first | done | with_reducible rfl)
            try simp only [Act.put, List.getElem_toArray, List.getElem_cons_succ, List.getElem_cons_zero, List.setIfInBounds_toArray, List.set_cons_zero, List.set_cons_succ]
            refine wpAnyH_take (i := 10) (v := ?vv21) rfl (by kernel_rfl) (by kernel_rfl) (by kernel_rfl) (fun _ _ _ h => h) (Or.inl ⟨by rfl, ?hy21⟩) (by assumption) ?rest21
            case hy21 => (intro w hSw; (try dsimp only at hSw); go_simp; first | done | with_reducible rfl)
            try simp only [Act.put, List.getElem_toArray, List.getElem_cons_succ, List.getElem_cons_zero, List.setIfInBounds_toArray, List.set_cons_zero, List.set_cons_succ]
            refine wpAnyH_done (by kernel_rfl) ?_ _
            clear hHeld ZC
            go_wp2
            go_ret
            exact ⟨rfl, below_on BW.out BQ7.out⟩
      · have n2 : decide ((k : Int) < 8) = false := decide_eq_false (by omega)
        have n2' : decide (k < 8) = false := decide_eq_false h2
        have HE : Hid (FaE y0.2 y1.2 d) := FaV.end_ HV.out HK8.out
        obtain ⟨A, B, m, fl, dn, hd0, hm, hB, hAS⟩ := HE.out
        subst hd0
        have hA := FaE.okA hAS
        have FL : Hid (∀ B fl dn k t W, OkB B → FaM w1 p b6 b7 y0 y1 (faD A B m fl dn) W → Calls Try.prog 12 #[.pointer (some ⟨p, 0, none⟩), .int .i64 k, .int .i64 t] W fun e w' => e = .returned (.tuple #[]) ∧ FaM w1 p b6 b7 y0 y1 (faD A B m fl true) w') := fun B fl dn k t W hB h => fam_fail h hA hB k t
        have UP : Hid (∀ B fl W, FaM w1 p b6 b7 y0 y1 (faD A B m fl true) W → Calls Try.prog 13 #[.pointer (some ⟨p, 0, none⟩)] W fun e w' => e = .returned (.bool true) ∧ FaM w1 p b6 b7 y0 y1 (faD A B m fl false) w') := fun B fl W h => fam_up h
        have CH : Hid (∀ B fl W, FaM w1 p b6 b7 y0 y1 (faD A B m fl false) W → Calls Try.prog 14 #[.pointer (some ⟨p, 0, none⟩)] W fun e w' => e = .returned (.int .i64 (m : Int)) ∧ Below W.heap.size W w') := fun B fl W h => fam_chg h
        have PN : Hid (∀ B fl dn W, FaM w1 p b6 b7 y0 y1 (faD A B m fl dn) W → Calls Try.prog 7 #[.pointer (some ⟨p, 0, none⟩), .slice none 0 0] W fun e w' => e = .returned (.tuple #[]) ∧ FaM w1 p b6 b7 y0 y1 (faD A B m [] dn) w') := fun B fl dn W h => fam_plan h (.slice none 0 0) [] (.inl ⟨none, 0, rfl, rfl⟩) (by simp) (fun x hx => by cases hx)
        have PX : Hid (∀ B fl W W', FaM w1 p b6 b7 y0 y1 (faD A B m fl false) W → W' = W.alloc (.cells #[.int .i64 (m : Int), .int .i64 b', .int .i64 c'] 24) → Calls Try.prog 7 #[.pointer (some ⟨p, 0, none⟩), .slice (some ⟨W.heap.size, 0, none⟩) 1 1] W' fun e w' => e = .returned (.tuple #[]) ∧ FaM w1 p b6 b7 y0 y1 (faD A B m [⟨(m : Int), b', c'⟩] false) w') := fun B fl W W' h hW' => by
          subst hW'
          have r := srow W [.int .i64 (m : Int), .int .i64 b', .int .i64 c'] 24
          have hlt : W.heap.size ≠ p := by obtain ⟨ci, ⟨R, D⟩, _⟩ := h.dk; have := D.row.lt; omega
          refine fam_plan (h.on ((Below.refl _ _).alloc (Nat.le_refl _) _)) _ [⟨(m : Int), b', c'⟩] (.inr ⟨W.heap.size, 0, 1, rfl, hlt, r.lt, fun j hj => ?_⟩) (by simp) (fun x hx => ?_)
          · have hj0 : j = 0 := by simp at hj; omega
            subst hj0
            exact ⟨r.cellAt rfl, r.cellAt rfl, r.cellAt rfl⟩
          · have hx' : x = ⟨(m : Int), b', c'⟩ := by simpa using hx
            subst hx'
            exact wf_small ⟨by show (0 : Int) ≤ (m : Int); omega, by show (m : Int) ≤ 100000; omega⟩
        have LA : Hid (∀ B W, OkB B → FaM w1 p b6 b7 y0 y1 (faD A B m [⟨(m : Int), b', c'⟩] false) W → Calls Try.prog 15 #[.pointer (some ⟨p, 0, none⟩)] W fun e w' => ∃ ad n cap i t s b k B' fl dn, e = .returned (.tuple #[.agg #[.int .i64 i, .int .i64 t, .slice ad n cap, .string s], .bool b, .int .i64 k]) ∧ FaM w1 p b6 b7 y0 y1 (faD A B' m fl dn) w' ∧ OkB B') := fun B W hB h => fam_load1 h rfl hA hB (by omega)
        obtain ⟨x, hx, hxx, hxl⟩ : ∃ x : Sh, FaS A x ∧ (x = y0.2 ∨ x = y1.2) ∧ x.ms.length ≤ 17592186044416 := by
          rcases hAS with h | h
          · exact ⟨_, h, .inl rfl, IY.out.1.2⟩
          · exact ⟨_, h, .inr rfl, IY.out.2.2⟩
        have LB : Hid (∀ B W, OkB B → FaM w1 p b6 b7 y0 y1 (faD A B m [] false) W → Calls Try.prog 15 #[.pointer (some ⟨p, 0, none⟩)] W fun e w' => ∃ ad cap n, e = .returned (.tuple #[.agg #[.int .i64 x.ix, .int .i64 x.tm, .slice ad x.ms.length cap, .string x.da], .bool (decide (0 < x.ms.length)), .int .i64 0]) ∧ IntsI w' (.slice ad x.ms.length cap) x.ms ∧ FaM w1 p b6 b7 y0 y1 (faD A none n [] false) w') := fun B W hB h => fam_load2 h hx hB (by omega)
        have HXX := hid hxx
        have HXL := hid hxl
        have HBB := hid hB
        clear hm hB hAS hA hx hxx hxl HE HV CEL INT
        have G0 := hid (FM.out.row HR.out HNE.out)
        have d1 := G0.out.cellAt (o := 1) rfl
        have d2 := G0.out.cellAt (o := 2) rfl
        go_wp2_with fail
        refine (FL.out _ _ _ _ _ _ HBB.out FM.out).mono ?_
        rintro e u1 ⟨rfl, hF⟩
        have F1 := hid hF
        clear hF FM G0 d1 d2
        go_wp2_with fail
        refine (UP.out _ _ _ F1.out).mono ?_
        rintro e u2 ⟨rfl, hF⟩
        have F2 := hid hF
        clear hF F1
        go_upto_region 19 with fail
        have ZC : Hid (∀ W, Below u2.heap.size u2 W → (fun w' => w'.cell? ⟨w.heap.size, 4, none⟩ = some (.int .i64 b') ∧ w'.cell? ⟨w.heap.size, 5, none⟩ = some (.int .i64 c')) W) := fun W hW => by
          have m1 := (F2.out.on hW).row HR.out HNE.out
          exact ⟨m1.cellAt (o := 4) rfl, m1.cellAt (o := 5) rfl⟩
        have D0 := hid (Below.refl u2.heap.size u2).drew
        have CHX : Hid (∀ W, Below u2.heap.size u2 W → Calls Try.prog 14 #[.pointer (some ⟨p, 0, none⟩)] W fun e w' => e = .returned (.int .i64 (m : Int)) ∧ Below W.heap.size W w') := fun W hW => CH.out _ _ W (F2.out.on hW)
        refine wp_region_held_drew (S := (fun w' => w'.cell? ⟨w.heap.size, 4, none⟩ = some (.int .i64 b') ∧ w'.cell? ⟨w.heap.size, 5, none⟩ = some (.int .i64 c'))) (by kernel_rfl) (ZC.out _ D0.out) (fun hHeld => ?_)
        refine wpAnyH_take (i := 0) (v := ?vv22) rfl (by kernel_rfl) (by kernel_rfl) (by kernel_rfl) (fun _ _ _ h => h) (Or.inl ⟨by rfl, ?hy22⟩) (by assumption) ?rest22
        case hy22 => (intro w hSw; (try dsimp only at hSw); go_simp; first | done | with_reducible rfl)
        try simp only [Act.put, List.getElem_toArray, List.getElem_cons_succ, List.getElem_cons_zero, List.setIfInBounds_toArray, List.set_cons_zero, List.set_cons_succ]
        refine wpAnyH_take (i := 1) (v := ?vv23) rfl (by kernel_rfl) (by kernel_rfl) (by kernel_rfl) (fun _ _ _ h => h) (Or.inl ⟨by rfl, ?hy23⟩) (by assumption) ?rest23
        case hy23 => (intro w hSw; (try dsimp only at hSw); go_simp; first | done | with_reducible rfl)
        try simp only [Act.put, List.getElem_toArray, List.getElem_cons_succ, List.getElem_cons_zero, List.setIfInBounds_toArray, List.set_cons_zero, List.set_cons_succ]
        refine wpAnyH_take (i := 3) (v := ?vv24) rfl (by kernel_rfl) (by kernel_rfl) (by kernel_rfl) (fun _ _ _ h => h) (Or.inl ⟨by rfl, ?hy24⟩) (by assumption) ?rest24
        case hy24 => (intro w hSw; (try dsimp only at hSw); go_simp; first | done | with_reducible rfl)
        try simp only [Act.put, List.getElem_toArray, List.getElem_cons_succ, List.getElem_cons_zero, List.setIfInBounds_toArray, List.set_cons_zero, List.set_cons_succ]
        refine wpAnyH_take (i := 4) (v := ?vv25) rfl (by kernel_rfl) (by kernel_rfl) (by kernel_rfl) (fun _ _ _ h => h) (Or.inl ⟨by rfl, ?hy25⟩) (by assumption) ?rest25
        case hy25 => (intro w hSw; (try dsimp only at hSw); go_simp; first | done | with_reducible rfl)
        try simp only [Act.put, List.getElem_toArray, List.getElem_cons_succ, List.getElem_cons_zero, List.setIfInBounds_toArray, List.set_cons_zero, List.set_cons_succ]
        refine wpAnyH_take (i := 5) (v := ?vv26) rfl (by kernel_rfl) (by kernel_rfl) (by kernel_rfl) (fun _ _ _ h => h) (Or.inl ⟨by rfl, ?hy26⟩) (by assumption) ?rest26
        case hy26 => (intro w hSw; (try dsimp only at hSw); go_simp; first | done | with_reducible rfl)
        try simp only [Act.put, List.getElem_toArray, List.getElem_cons_succ, List.getElem_cons_zero, List.setIfInBounds_toArray, List.set_cons_zero, List.set_cons_succ]
        refine wpAnyH_take (i := 6) (v := ?vv27) rfl (by kernel_rfl) (by kernel_rfl) (by kernel_rfl) (fun _ _ _ h => h) (Or.inl ⟨by rfl, ?hy27⟩) (by assumption) ?rest27
        case hy27 => (intro w hSw; (try dsimp only at hSw); go_simp; first | done | with_reducible rfl)
        try simp only [Act.put, List.getElem_toArray, List.getElem_cons_succ, List.getElem_cons_zero, List.setIfInBounds_toArray, List.set_cons_zero, List.set_cons_succ]
        refine wpAnyH_take (i := 7) (v := ?vv28) rfl (by kernel_rfl) (by kernel_rfl) (by kernel_rfl) (fun _ _ _ h => h) (Or.inl ⟨by rfl, ?hy28⟩) (by assumption) ?rest28
        case hy28 => (intro w hSw; (try dsimp only at hSw); go_simp; first | done | with_reducible rfl)
        try simp only [Act.put, List.getElem_toArray, List.getElem_cons_succ, List.getElem_cons_zero, List.setIfInBounds_toArray, List.set_cons_zero, List.set_cons_succ]
        refine wpAnyH_take (i := 8) (v := ?vv29) rfl (by kernel_rfl) (by kernel_rfl) (by kernel_rfl) (fun _ _ _ h => h) (Or.inl ⟨by rfl, ?hy29⟩) (by assumption) ?rest29
        case hy29 => (intro w hSw; (try dsimp only at hSw); go_simp; first | done | with_reducible rfl)
        try simp only [Act.put, List.getElem_toArray, List.getElem_cons_succ, List.getElem_cons_zero, List.setIfInBounds_toArray, List.set_cons_zero, List.set_cons_succ]
        refine wpAnyH_ready (rs := [2]) (by kernel_rfl) (by simp) ?_
        refine AllReadyH.cons rfl (fun K hK => ?_) AllReadyH.nil
        go_simp
        refine (CHX.out _ D0.out).mono ?_
        rintro e wq8 ⟨rfl, bq⟩
        have BQ8 := hid (below_on D0.out bq)
        clear bq hHeld
        go_wp2_with fail
        refine hK.out _ _ (ZC.out _ BQ8.out) (fun hHeld => ?_)
        clear hK K
        try simp only [Act.put, List.getElem_toArray, List.getElem_cons_succ, List.getElem_cons_zero, List.setIfInBounds_toArray, List.set_cons_zero, List.set_cons_succ]
        refine wpAnyH_take (i := 9) (v := ?vv30) rfl (by kernel_rfl) (by kernel_rfl) (by kernel_rfl) (fun _ _ _ h => h) (Or.inl ⟨by rfl, ?hy30⟩) (by assumption) ?rest30
        case hy30 => (intro w hSw; (try dsimp only at hSw); go_simp; first | done | with_reducible rfl)
        try simp only [Act.put, List.getElem_toArray, List.getElem_cons_succ, List.getElem_cons_zero, List.setIfInBounds_toArray, List.set_cons_zero, List.set_cons_succ]
        refine wpAnyH_ready (rs := [10]) (by kernel_rfl) (by simp) ?_
        refine AllReadyH.cons rfl (fun K hK => ?_) AllReadyH.nil
        go_simp
        refine hK.out _ _ (ZC.out _ (below_al BQ8.out _)) (fun hHeld => ?_)
        clear hK K
        try simp only [Act.put, List.getElem_toArray, List.getElem_cons_succ, List.getElem_cons_zero, List.setIfInBounds_toArray, List.set_cons_zero, List.set_cons_succ]
        refine wpAnyH_ready (rs := [11]) (by kernel_rfl) (by simp) ?_
        refine AllReadyH.cons rfl (fun K hK => ?_) AllReadyH.nil
        go_simp
        refine (PX.out _ _ wq8 _ (F2.out.on BQ8.out) rfl).mono ?_
        rintro e u3 ⟨rfl, hF⟩
        have F3 := hid hF
        have m3 := F3.out.row HR.out HNE.out
        have ZC3 := And.intro (m3.cellAt (o := 4) rfl) (m3.cellAt (o := 5) rfl)
        clear hF m3
        go_wp2_with fail
        refine hK.out _ _ ZC3 (fun hHeld => ?_)
        clear hK K
        try simp only [Act.put, List.getElem_toArray, List.getElem_cons_succ, List.getElem_cons_zero, List.setIfInBounds_toArray, List.set_cons_zero, List.set_cons_succ]
        refine wpAnyH_done (by kernel_rfl) ?_ _
        clear hHeld ZC3 ZC CH CHX PX F2 D0 BQ8
        go_wp2_with fail
        refine (LA.out _ _ HBB.out F3.out).mono ?_
        rintro e u4 ⟨la, ln, lc, li, lt, lz, lb, lk, B', fl', dn', rfl, hF, hB⟩
        have F4 := hid hF
        have HB4 := hid hB
        clear hF hB F3 LA HBB
        go_wp2_with fail
        refine (PN.out _ _ _ _ F4.out).mono ?_
        rintro e u5 ⟨rfl, hF⟩
        have F5 := hid hF
        clear hF F4 PN
        have G0 := hid (F5.out.row HR.out HNE.out)
        have d1 := G0.out.cellAt (o := 4) rfl
        have d2 := G0.out.cellAt (o := 5) rfl
        go_wp2_with fail
        refine (FL.out _ _ _ _ _ _ HB4.out F5.out).mono ?_
        rintro e u6 ⟨rfl, hF⟩
        have F6 := hid hF
        clear hF F5 G0 d1 d2 FL
        go_wp2_with fail
        refine (UP.out _ _ _ F6.out).mono ?_
        rintro e u7 ⟨rfl, hF⟩
        have F7 := hid hF
        clear hF F6 UP
        go_wp2_with fail
        refine (LB.out _ _ HB4.out F7.out).mono ?_
        rintro e u8 ⟨sa, sc, n8, rfl, hI, hF⟩
        have F8 := hid hF
        have I8 := hid hI
        clear hF hI F7 LB HB4
        obtain ⟨ix, tm, ms, da⟩ := x
        simp only at *
        have AL := hid (below_al (Below.refl u8.heap.size u8) (.cells #[.int .i64 ix, .int .i64 tm, .slice sa ms.length sc, .string da] 36))
        have R9 : Hid (RowIs (u8.alloc (.cells #[.int .i64 ix, .int .i64 tm, .slice sa ms.length sc, .string da] 36)) u8.heap.size [.int .i64 ix, .int .i64 tm, .slice sa ms.length sc, .string da] 36) := srow u8 _ _
        have F9 := hid (F8.out.on AL.out)
        have I9 := hid (I8.out.next AL.out)
        clear F8 I8 AL
        have hbi : decide ((0 : Int) < (ms.length : Int)) = decide (0 < ms.length) := by by_cases h : 0 < ms.length <;> simp [h]
        have hbj : decide ((ms.length : Int) > 0) = decide (0 < ms.length) := by by_cases h : 0 < ms.length <;> simp [h]
        generalize hbn : decide (0 < ms.length) = bb at *
        have hbb : (!bb == bb) = false := by cases bb <;> rfl
        have hbc : (bb != bb) = false := by cases bb <;> rfl
        go_upto_region 27 with fail
        clear hbi hbj hbb hbc hbn
        generalize u8.alloc (.cells #[.int .i64 ix, .int .i64 tm, .slice sa ms.length sc, .string da] 36) = X at *
        generalize u8.heap.size = qs at *
        obtain ⟨v0, i0, t0, m0, s0⟩ := y0
        obtain ⟨v1, i1, t1, m1, s1⟩ := y1
        simp only at *
        obtain ⟨a0, k0, rfl, -⟩ := IY.out.1.1.form
        obtain ⟨a1, k1, rfl, -⟩ := IY.out.2.1.form
        have BW := hid (HB.out _ _ _ _ _ _ F9.out)
        have ZC : Hid (∀ W, Below X.heap.size X W → (fun w' => w'.cell? ⟨qs, 0, none⟩ = some (.int .i64 ix) ∧ w'.cell? ⟨qs, 1, none⟩ = some (.int .i64 tm) ∧ w'.cell? ⟨qs, 2, none⟩ = some (.slice sa ms.length sc) ∧ w'.cell? ⟨qs, 3, none⟩ = some (.string da) ∧ w'.cell? ⟨b6, 0, none⟩ = some (.int .i64 i0) ∧ w'.cell? ⟨b6, 1, none⟩ = some (.int .i64 t0) ∧ w'.cell? ⟨b6, 2, none⟩ = some (.slice a0 m0.length k0) ∧ w'.cell? ⟨b6, 3, none⟩ = some (.string s0) ∧ w'.cell? ⟨b7, 0, none⟩ = some (.int .i64 i1) ∧ w'.cell? ⟨b7, 1, none⟩ = some (.int .i64 t1) ∧ w'.cell? ⟨b7, 2, none⟩ = some (.slice a1 m1.length k1) ∧ w'.cell? ⟨b7, 3, none⟩ = some (.string s1)) W) := fun W hW => by
          have m1 := R9.out.keep (hW.keep (fun _ => False)) (fun h => h)
          have m2 := (F9.out.on hW).r6
          have m3 := (F9.out.on hW).r7
          exact ⟨m1.cellAt rfl, m1.cellAt rfl, m1.cellAt rfl, m1.cellAt rfl, m2.cellAt rfl, m2.cellAt rfl, m2.cellAt rfl, m2.cellAt rfl, m3.cellAt rfl, m3.cellAt rfl, m3.cellAt rfl, m3.cellAt rfl⟩
        have RFX : Hid (∀ W, Below X.heap.size X W → Calls Try.prog 10 #[.agg #[.int .i64 ix, .int .i64 tm, .slice sa ms.length sc, .string da]] W fun e w' => e = .returned (.agg #[.int .i64 ix, .int .i64 tm, .slice sa ms.length sc, .string da]) ∧ Below W.heap.size W w') := fun W _ => RF.out _ _ _ _ _ _ W
        have SM1 : Hid (∀ W, Below X.heap.size X W → Calls Try.prog 16 #[.agg #[.int .i64 ix, .int .i64 tm, .slice sa ms.length sc, .string da], .agg #[.int .i64 i0, .int .i64 t0, .slice a0 m0.length k0, .string s0]] W fun e w' => e = .returned (.bool (smS ⟨ix, tm, ms, da⟩ ⟨i0, t0, m0, s0⟩)) ∧ Below W.heap.size W w') := fun W hW => rsame_any _ _ ⟨ix, tm, ms, da⟩ ⟨i0, t0, m0, s0⟩ W (I9.out.next hW) (IY.out.1.1.next (below_on BW.out hW)) (by have := HXL.out; show ms.length ≤ _; omega)
        have SM2 : Hid (∀ W, Below X.heap.size X W → Calls Try.prog 16 #[.agg #[.int .i64 ix, .int .i64 tm, .slice sa ms.length sc, .string da], .agg #[.int .i64 i1, .int .i64 t1, .slice a1 m1.length k1, .string s1]] W fun e w' => e = .returned (.bool (smS ⟨ix, tm, ms, da⟩ ⟨i1, t1, m1, s1⟩)) ∧ Below W.heap.size W w') := fun W hW => rsame_any _ _ ⟨ix, tm, ms, da⟩ ⟨i1, t1, m1, s1⟩ W (I9.out.next hW) (IY.out.2.1.next (below_on BW.out hW)) (by have := HXL.out; show ms.length ≤ _; omega)
        have HOR : Hid (smS ⟨ix, tm, ms, da⟩ ⟨i0, t0, m0, s0⟩ = false → smS ⟨ix, tm, ms, da⟩ ⟨i1, t1, m1, s1⟩ = true) := fun h => by
          rcases HXX.out with e | e
          · rw [e] at h; simp [smS] at h
          · rw [e]; simp [smS]
        generalize smS ⟨ix, tm, ms, da⟩ ⟨i0, t0, m0, s0⟩ = B1 at *
        generalize smS ⟨ix, tm, ms, da⟩ ⟨i1, t1, m1, s1⟩ = B2 at *
        have D0 := hid (Below.refl X.heap.size X).drew
        clear RF R9 F9 I9 IY HXX HXL AW HR
        cases B1 with
        | true =>
          refine wp_region_held_drew (S := (fun w' => w'.cell? ⟨qs, 0, none⟩ = some (.int .i64 ix) ∧ w'.cell? ⟨qs, 1, none⟩ = some (.int .i64 tm) ∧ w'.cell? ⟨qs, 2, none⟩ = some (.slice sa ms.length sc) ∧ w'.cell? ⟨qs, 3, none⟩ = some (.string da) ∧ w'.cell? ⟨b6, 0, none⟩ = some (.int .i64 i0) ∧ w'.cell? ⟨b6, 1, none⟩ = some (.int .i64 t0) ∧ w'.cell? ⟨b6, 2, none⟩ = some (.slice a0 m0.length k0) ∧ w'.cell? ⟨b6, 3, none⟩ = some (.string s0) ∧ w'.cell? ⟨b7, 0, none⟩ = some (.int .i64 i1) ∧ w'.cell? ⟨b7, 1, none⟩ = some (.int .i64 t1) ∧ w'.cell? ⟨b7, 2, none⟩ = some (.slice a1 m1.length k1) ∧ w'.cell? ⟨b7, 3, none⟩ = some (.string s1))) (by kernel_rfl) (ZC.out _ D0.out) (fun hHeld => ?_)
          refine wpAnyH_take (i := 0) (v := ?vv31) rfl (by kernel_rfl) (by kernel_rfl) (by kernel_rfl) (fun _ _ _ h => h) (Or.inl ⟨by rfl, ?hy31⟩) (by assumption) ?rest31
          case hy31 => (intro w hSw; (try dsimp only at hSw); go_simp; first | done | with_reducible rfl)
          try simp only [Act.put, List.getElem_toArray, List.getElem_cons_succ, List.getElem_cons_zero, List.setIfInBounds_toArray, List.set_cons_zero, List.set_cons_succ]
          refine wpAnyH_take (i := 2) (v := ?vv32) rfl (by kernel_rfl) (by kernel_rfl) (by kernel_rfl) (fun _ _ _ h => h) (Or.inl ⟨by rfl, ?hy32⟩) (by assumption) ?rest32
          case hy32 => (intro w hSw; (try dsimp only at hSw); go_simp; first | done | with_reducible rfl)
          try simp only [Act.put, List.getElem_toArray, List.getElem_cons_succ, List.getElem_cons_zero, List.setIfInBounds_toArray, List.set_cons_zero, List.set_cons_succ]
          refine wpAnyH_ready (rs := [1]) (by kernel_rfl) (by simp) ?_
          refine AllReadyH.cons rfl (fun K hK => ?_) AllReadyH.nil
          go_simp
          refine (RFX.out _ D0.out).mono ?_
          rintro e wq9 ⟨rfl, bq⟩
          have BQ9 := hid (below_on D0.out bq)
          clear bq hHeld
          go_wp2_with fail
          refine hK.out _ _ (ZC.out _ BQ9.out) (fun hHeld => ?_)
          clear hK K
          try simp only [Act.put, List.getElem_toArray, List.getElem_cons_succ, List.getElem_cons_zero, List.setIfInBounds_toArray, List.set_cons_zero, List.set_cons_succ]
          refine wpAnyH_ready (rs := [3]) (by kernel_rfl) (by simp) ?_
          refine AllReadyH.cons rfl (fun K hK => ?_) AllReadyH.nil
          go_simp
          refine (SM1.out _ BQ9.out).mono ?_
          rintro e wq10 ⟨rfl, bq⟩
          have BQ10 := hid (below_on BQ9.out bq)
          clear bq hHeld
          go_wp2_with fail
          refine hK.out _ _ (ZC.out _ BQ10.out) (fun hHeld => ?_)
          clear hK K
          try simp only [Act.put, List.getElem_toArray, List.getElem_cons_succ, List.getElem_cons_zero, List.setIfInBounds_toArray, List.set_cons_zero, List.set_cons_succ]
          refine wpAnyH_take (i := 4) (v := ?vv33) rfl (by kernel_rfl) (by kernel_rfl) (by kernel_rfl) (fun _ _ _ h => h) (Or.inl ⟨by rfl, ?hy33⟩) (by assumption) ?rest33
          case hy33 => (intro w hSw; (try dsimp only at hSw); go_simp; first | done | with_reducible rfl)
          try simp only [Act.put, List.getElem_toArray, List.getElem_cons_succ, List.getElem_cons_zero, List.setIfInBounds_toArray, List.set_cons_zero, List.set_cons_succ]
          refine wpAnyH_take (i := 5) (v := undef) rfl (by kernel_rfl) (by kernel_rfl) (by kernel_rfl) (fun _ _ _ h => h) (Or.inr ⟨by rfl, rfl⟩) (by assumption) ?_
          try simp only [Act.put, List.getElem_toArray, List.getElem_cons_succ, List.getElem_cons_zero, List.setIfInBounds_toArray, List.set_cons_zero, List.set_cons_succ]
          refine wpAnyH_take (i := 6) (v := undef) rfl (by kernel_rfl) (by kernel_rfl) (by kernel_rfl) (fun _ _ _ h => h) (Or.inr ⟨by rfl, rfl⟩) (by assumption) ?_
          try simp only [Act.put, List.getElem_toArray, List.getElem_cons_succ, List.getElem_cons_zero, List.setIfInBounds_toArray, List.set_cons_zero, List.set_cons_succ]
          refine wpAnyH_take (i := 7) (v := undef) rfl (by kernel_rfl) (by kernel_rfl) (by kernel_rfl) (fun _ _ _ h => h) (Or.inr ⟨by rfl, rfl⟩) (by assumption) ?_
          try simp only [Act.put, List.getElem_toArray, List.getElem_cons_succ, List.getElem_cons_zero, List.setIfInBounds_toArray, List.set_cons_zero, List.set_cons_succ]
          refine wpAnyH_take (i := 8) (v := undef) rfl (by kernel_rfl) (by kernel_rfl) (by kernel_rfl) (fun _ _ _ h => h) (Or.inr ⟨by rfl, rfl⟩) (by assumption) ?_
          try simp only [Act.put, List.getElem_toArray, List.getElem_cons_succ, List.getElem_cons_zero, List.setIfInBounds_toArray, List.set_cons_zero, List.set_cons_succ]
          refine wpAnyH_take (i := 9) (v := ?vv34) rfl (by kernel_rfl) (by kernel_rfl) (by kernel_rfl) (fun _ _ _ h => h) (Or.inl ⟨by rfl, ?hy34⟩) (by assumption) ?rest34
          case hy34 => (intro w hSw; (try dsimp only at hSw); go_simp; first | done | with_reducible rfl)
          try simp only [Act.put, List.getElem_toArray, List.getElem_cons_succ, List.getElem_cons_zero, List.setIfInBounds_toArray, List.set_cons_zero, List.set_cons_succ]
          refine wpAnyH_take (i := 10) (v := ?vv35) rfl (by kernel_rfl) (by kernel_rfl) (by kernel_rfl) (fun _ _ _ h => h) (Or.inl ⟨by rfl, ?hy35⟩) (by assumption) ?rest35
          case hy35 => (intro w hSw; (try dsimp only at hSw); go_simp; first | done | with_reducible rfl)
          try simp only [Act.put, List.getElem_toArray, List.getElem_cons_succ, List.getElem_cons_zero, List.setIfInBounds_toArray, List.set_cons_zero, List.set_cons_succ]
          refine wpAnyH_done (by kernel_rfl) ?_ _
          clear hHeld ZC
          go_wp2
          go_ret
          exact ⟨rfl, below_on BW.out BQ10.out⟩
        | false =>
          have hb2 : B2 = true := HOR.out rfl
          subst hb2
          clear HOR
          refine wp_region_held_drew (S := (fun w' => w'.cell? ⟨qs, 0, none⟩ = some (.int .i64 ix) ∧ w'.cell? ⟨qs, 1, none⟩ = some (.int .i64 tm) ∧ w'.cell? ⟨qs, 2, none⟩ = some (.slice sa ms.length sc) ∧ w'.cell? ⟨qs, 3, none⟩ = some (.string da) ∧ w'.cell? ⟨b6, 0, none⟩ = some (.int .i64 i0) ∧ w'.cell? ⟨b6, 1, none⟩ = some (.int .i64 t0) ∧ w'.cell? ⟨b6, 2, none⟩ = some (.slice a0 m0.length k0) ∧ w'.cell? ⟨b6, 3, none⟩ = some (.string s0) ∧ w'.cell? ⟨b7, 0, none⟩ = some (.int .i64 i1) ∧ w'.cell? ⟨b7, 1, none⟩ = some (.int .i64 t1) ∧ w'.cell? ⟨b7, 2, none⟩ = some (.slice a1 m1.length k1) ∧ w'.cell? ⟨b7, 3, none⟩ = some (.string s1))) (by kernel_rfl) (ZC.out _ D0.out) (fun hHeld => ?_)
          refine wpAnyH_take (i := 0) (v := ?vv36) rfl (by kernel_rfl) (by kernel_rfl) (by kernel_rfl) (fun _ _ _ h => h) (Or.inl ⟨by rfl, ?hy36⟩) (by assumption) ?rest36
          case hy36 => (intro w hSw; (try dsimp only at hSw); go_simp; first | done | with_reducible rfl)
          try simp only [Act.put, List.getElem_toArray, List.getElem_cons_succ, List.getElem_cons_zero, List.setIfInBounds_toArray, List.set_cons_zero, List.set_cons_succ]
          refine wpAnyH_take (i := 2) (v := ?vv37) rfl (by kernel_rfl) (by kernel_rfl) (by kernel_rfl) (fun _ _ _ h => h) (Or.inl ⟨by rfl, ?hy37⟩) (by assumption) ?rest37
          case hy37 => (intro w hSw; (try dsimp only at hSw); go_simp; first | done | with_reducible rfl)
          try simp only [Act.put, List.getElem_toArray, List.getElem_cons_succ, List.getElem_cons_zero, List.setIfInBounds_toArray, List.set_cons_zero, List.set_cons_succ]
          refine wpAnyH_ready (rs := [1]) (by kernel_rfl) (by simp) ?_
          refine AllReadyH.cons rfl (fun K hK => ?_) AllReadyH.nil
          go_simp
          refine (RFX.out _ D0.out).mono ?_
          rintro e wq11 ⟨rfl, bq⟩
          have BQ11 := hid (below_on D0.out bq)
          clear bq hHeld
          go_wp2_with fail
          refine hK.out _ _ (ZC.out _ BQ11.out) (fun hHeld => ?_)
          clear hK K
          try simp only [Act.put, List.getElem_toArray, List.getElem_cons_succ, List.getElem_cons_zero, List.setIfInBounds_toArray, List.set_cons_zero, List.set_cons_succ]
          refine wpAnyH_ready (rs := [3]) (by kernel_rfl) (by simp) ?_
          refine AllReadyH.cons rfl (fun K hK => ?_) AllReadyH.nil
          go_simp
          refine (SM1.out _ BQ11.out).mono ?_
          rintro e wq12 ⟨rfl, bq⟩
          have BQ12 := hid (below_on BQ11.out bq)
          clear bq hHeld
          go_wp2_with fail
          refine hK.out _ _ (ZC.out _ BQ12.out) (fun hHeld => ?_)
          clear hK K
          try simp only [Act.put, List.getElem_toArray, List.getElem_cons_succ, List.getElem_cons_zero, List.setIfInBounds_toArray, List.set_cons_zero, List.set_cons_succ]
          refine wpAnyH_take (i := 4) (v := ?vv38) rfl (by kernel_rfl) (by kernel_rfl) (by kernel_rfl) (fun _ _ _ h => h) (Or.inl ⟨by rfl, ?hy38⟩) (by assumption) ?rest38
          case hy38 => (intro w hSw; (try dsimp only at hSw); go_simp; first | done | with_reducible rfl)
          try simp only [Act.put, List.getElem_toArray, List.getElem_cons_succ, List.getElem_cons_zero, List.setIfInBounds_toArray, List.set_cons_zero, List.set_cons_succ]
          refine wpAnyH_take (i := 5) (v := ?vv39) rfl (by kernel_rfl) (by kernel_rfl) (by kernel_rfl) (fun _ _ _ h => h) (Or.inl ⟨by rfl, ?hy39⟩) (by assumption) ?rest39
          case hy39 => (intro w hSw; (try dsimp only at hSw); go_simp; first | done | with_reducible rfl)
          try simp only [Act.put, List.getElem_toArray, List.getElem_cons_succ, List.getElem_cons_zero, List.setIfInBounds_toArray, List.set_cons_zero, List.set_cons_succ]
          refine wpAnyH_take (i := 7) (v := ?vv40) rfl (by kernel_rfl) (by kernel_rfl) (by kernel_rfl) (fun _ _ _ h => h) (Or.inl ⟨by rfl, ?hy40⟩) (by assumption) ?rest40
          case hy40 => (intro w hSw; (try dsimp only at hSw); go_simp; first | done | with_reducible rfl)
          try simp only [Act.put, List.getElem_toArray, List.getElem_cons_succ, List.getElem_cons_zero, List.setIfInBounds_toArray, List.set_cons_zero, List.set_cons_succ]
          refine wpAnyH_ready (rs := [6]) (by kernel_rfl) (by simp) ?_
          refine AllReadyH.cons rfl (fun K hK => ?_) AllReadyH.nil
          go_simp
          refine (RFX.out _ BQ12.out).mono ?_
          rintro e wq13 ⟨rfl, bq⟩
          have BQ13 := hid (below_on BQ12.out bq)
          clear bq hHeld
          go_wp2_with fail
          refine hK.out _ _ (ZC.out _ BQ13.out) (fun hHeld => ?_)
          clear hK K
          try simp only [Act.put, List.getElem_toArray, List.getElem_cons_succ, List.getElem_cons_zero, List.setIfInBounds_toArray, List.set_cons_zero, List.set_cons_succ]
          refine wpAnyH_ready (rs := [8]) (by kernel_rfl) (by simp) ?_
          refine AllReadyH.cons rfl (fun K hK => ?_) AllReadyH.nil
          go_simp
          refine (SM2.out _ BQ13.out).mono ?_
          rintro e wq14 ⟨rfl, bq⟩
          have BQ14 := hid (below_on BQ13.out bq)
          clear bq hHeld
          go_wp2_with fail
          refine hK.out _ _ (ZC.out _ BQ14.out) (fun hHeld => ?_)
          clear hK K
          try simp only [Act.put, List.getElem_toArray, List.getElem_cons_succ, List.getElem_cons_zero, List.setIfInBounds_toArray, List.set_cons_zero, List.set_cons_succ]
          refine wpAnyH_take (i := 9) (v := ?vv41) rfl (by kernel_rfl) (by kernel_rfl) (by kernel_rfl) (fun _ _ _ h => h) (Or.inl ⟨by rfl, ?hy41⟩) (by assumption) ?rest41
          case hy41 => (intro w hSw; (try dsimp only at hSw); go_simp; first | done | with_reducible rfl)
          try simp only [Act.put, List.getElem_toArray, List.getElem_cons_succ, List.getElem_cons_zero, List.setIfInBounds_toArray, List.set_cons_zero, List.set_cons_succ]
          refine wpAnyH_take (i := 10) (v := ?vv42) rfl (by kernel_rfl) (by kernel_rfl) (by kernel_rfl) (fun _ _ _ h => h) (Or.inl ⟨by rfl, ?hy42⟩) (by assumption) ?rest42
          case hy42 => (intro w hSw; (try dsimp only at hSw); go_simp; first | done | with_reducible rfl)
          try simp only [Act.put, List.getElem_toArray, List.getElem_cons_succ, List.getElem_cons_zero, List.setIfInBounds_toArray, List.set_cons_zero, List.set_cons_succ]
          refine wpAnyH_done (by kernel_rfl) ?_ _
          clear hHeld ZC
          go_wp2
          go_ret
          exact ⟨rfl, below_on BW.out BQ14.out⟩
    · have n1 : decide ((k : Int) < (q.length : Int)) = false := decide_eq_false (by omega)
      have n1' : decide (k < q.length) = false := decide_eq_false h1
      have HE : Hid (FaE y0.2 y1.2 d) := FaV.end_ HV.out HK8.out
      obtain ⟨A, B, m, fl, dn, hd0, hm, hB, hAS⟩ := HE.out
      subst hd0
      have hA := FaE.okA hAS
      have FL : Hid (∀ B fl dn k t W, OkB B → FaM w1 p b6 b7 y0 y1 (faD A B m fl dn) W → Calls Try.prog 12 #[.pointer (some ⟨p, 0, none⟩), .int .i64 k, .int .i64 t] W fun e w' => e = .returned (.tuple #[]) ∧ FaM w1 p b6 b7 y0 y1 (faD A B m fl true) w') := fun B fl dn k t W hB h => fam_fail h hA hB k t
      have UP : Hid (∀ B fl W, FaM w1 p b6 b7 y0 y1 (faD A B m fl true) W → Calls Try.prog 13 #[.pointer (some ⟨p, 0, none⟩)] W fun e w' => e = .returned (.bool true) ∧ FaM w1 p b6 b7 y0 y1 (faD A B m fl false) w') := fun B fl W h => fam_up h
      have CH : Hid (∀ B fl W, FaM w1 p b6 b7 y0 y1 (faD A B m fl false) W → Calls Try.prog 14 #[.pointer (some ⟨p, 0, none⟩)] W fun e w' => e = .returned (.int .i64 (m : Int)) ∧ Below W.heap.size W w') := fun B fl W h => fam_chg h
      have PN : Hid (∀ B fl dn W, FaM w1 p b6 b7 y0 y1 (faD A B m fl dn) W → Calls Try.prog 7 #[.pointer (some ⟨p, 0, none⟩), .slice none 0 0] W fun e w' => e = .returned (.tuple #[]) ∧ FaM w1 p b6 b7 y0 y1 (faD A B m [] dn) w') := fun B fl dn W h => fam_plan h (.slice none 0 0) [] (.inl ⟨none, 0, rfl, rfl⟩) (by simp) (fun x hx => by cases hx)
      have PX : Hid (∀ B fl W W', FaM w1 p b6 b7 y0 y1 (faD A B m fl false) W → W' = W.alloc (.cells #[.int .i64 (m : Int), .int .i64 b', .int .i64 c'] 24) → Calls Try.prog 7 #[.pointer (some ⟨p, 0, none⟩), .slice (some ⟨W.heap.size, 0, none⟩) 1 1] W' fun e w' => e = .returned (.tuple #[]) ∧ FaM w1 p b6 b7 y0 y1 (faD A B m [⟨(m : Int), b', c'⟩] false) w') := fun B fl W W' h hW' => by
        subst hW'
        have r := srow W [.int .i64 (m : Int), .int .i64 b', .int .i64 c'] 24
        have hlt : W.heap.size ≠ p := by obtain ⟨ci, ⟨R, D⟩, _⟩ := h.dk; have := D.row.lt; omega
        refine fam_plan (h.on ((Below.refl _ _).alloc (Nat.le_refl _) _)) _ [⟨(m : Int), b', c'⟩] (.inr ⟨W.heap.size, 0, 1, rfl, hlt, r.lt, fun j hj => ?_⟩) (by simp) (fun x hx => ?_)
        · have hj0 : j = 0 := by simp at hj; omega
          subst hj0
          exact ⟨r.cellAt rfl, r.cellAt rfl, r.cellAt rfl⟩
        · have hx' : x = ⟨(m : Int), b', c'⟩ := by simpa using hx
          subst hx'
          exact wf_small ⟨by show (0 : Int) ≤ (m : Int); omega, by show (m : Int) ≤ 100000; omega⟩
      have LA : Hid (∀ B W, OkB B → FaM w1 p b6 b7 y0 y1 (faD A B m [⟨(m : Int), b', c'⟩] false) W → Calls Try.prog 15 #[.pointer (some ⟨p, 0, none⟩)] W fun e w' => ∃ ad n cap i t s b k B' fl dn, e = .returned (.tuple #[.agg #[.int .i64 i, .int .i64 t, .slice ad n cap, .string s], .bool b, .int .i64 k]) ∧ FaM w1 p b6 b7 y0 y1 (faD A B' m fl dn) w' ∧ OkB B') := fun B W hB h => fam_load1 h rfl hA hB (by omega)
      obtain ⟨x, hx, hxx, hxl⟩ : ∃ x : Sh, FaS A x ∧ (x = y0.2 ∨ x = y1.2) ∧ x.ms.length ≤ 17592186044416 := by
        rcases hAS with h | h
        · exact ⟨_, h, .inl rfl, IY.out.1.2⟩
        · exact ⟨_, h, .inr rfl, IY.out.2.2⟩
      have LB : Hid (∀ B W, OkB B → FaM w1 p b6 b7 y0 y1 (faD A B m [] false) W → Calls Try.prog 15 #[.pointer (some ⟨p, 0, none⟩)] W fun e w' => ∃ ad cap n, e = .returned (.tuple #[.agg #[.int .i64 x.ix, .int .i64 x.tm, .slice ad x.ms.length cap, .string x.da], .bool (decide (0 < x.ms.length)), .int .i64 0]) ∧ IntsI w' (.slice ad x.ms.length cap) x.ms ∧ FaM w1 p b6 b7 y0 y1 (faD A none n [] false) w') := fun B W hB h => fam_load2 h hx hB (by omega)
      have HXX := hid hxx
      have HXL := hid hxl
      have HBB := hid hB
      clear hm hB hAS hA hx hxx hxl HE HV CEL INT
      have G0 := hid (FM.out.row HR.out HNE.out)
      have d1 := G0.out.cellAt (o := 1) rfl
      have d2 := G0.out.cellAt (o := 2) rfl
      go_wp2_with fail
      refine (FL.out _ _ _ _ _ _ HBB.out FM.out).mono ?_
      rintro e u1 ⟨rfl, hF⟩
      have F1 := hid hF
      clear hF FM G0 d1 d2
      go_wp2_with fail
      refine (UP.out _ _ _ F1.out).mono ?_
      rintro e u2 ⟨rfl, hF⟩
      have F2 := hid hF
      clear hF F1
      go_upto_region 19 with fail
      have ZC : Hid (∀ W, Below u2.heap.size u2 W → (fun w' => w'.cell? ⟨w.heap.size, 4, none⟩ = some (.int .i64 b') ∧ w'.cell? ⟨w.heap.size, 5, none⟩ = some (.int .i64 c')) W) := fun W hW => by
        have m1 := (F2.out.on hW).row HR.out HNE.out
        exact ⟨m1.cellAt (o := 4) rfl, m1.cellAt (o := 5) rfl⟩
      have D0 := hid (Below.refl u2.heap.size u2).drew
      have CHX : Hid (∀ W, Below u2.heap.size u2 W → Calls Try.prog 14 #[.pointer (some ⟨p, 0, none⟩)] W fun e w' => e = .returned (.int .i64 (m : Int)) ∧ Below W.heap.size W w') := fun W hW => CH.out _ _ W (F2.out.on hW)
      refine wp_region_held_drew (S := (fun w' => w'.cell? ⟨w.heap.size, 4, none⟩ = some (.int .i64 b') ∧ w'.cell? ⟨w.heap.size, 5, none⟩ = some (.int .i64 c'))) (by kernel_rfl) (ZC.out _ D0.out) (fun hHeld => ?_)
      refine wpAnyH_take (i := 0) (v := ?vv43) rfl (by kernel_rfl) (by kernel_rfl) (by kernel_rfl) (fun _ _ _ h => h) (Or.inl ⟨by rfl, ?hy43⟩) (by assumption) ?rest43
      case hy43 => (intro w hSw; (try dsimp only at hSw); go_simp; first | done | with_reducible rfl)
      try simp only [Act.put, List.getElem_toArray, List.getElem_cons_succ, List.getElem_cons_zero, List.setIfInBounds_toArray, List.set_cons_zero, List.set_cons_succ]
      refine wpAnyH_take (i := 1) (v := ?vv44) rfl (by kernel_rfl) (by kernel_rfl) (by kernel_rfl) (fun _ _ _ h => h) (Or.inl ⟨by rfl, ?hy44⟩) (by assumption) ?rest44
      case hy44 => (intro w hSw; (try dsimp only at hSw); go_simp; first | done | with_reducible rfl)
      try simp only [Act.put, List.getElem_toArray, List.getElem_cons_succ, List.getElem_cons_zero, List.setIfInBounds_toArray, List.set_cons_zero, List.set_cons_succ]
      refine wpAnyH_take (i := 3) (v := ?vv45) rfl (by kernel_rfl) (by kernel_rfl) (by kernel_rfl) (fun _ _ _ h => h) (Or.inl ⟨by rfl, ?hy45⟩) (by assumption) ?rest45
      case hy45 => (intro w hSw; (try dsimp only at hSw); go_simp; first | done | with_reducible rfl)
      try simp only [Act.put, List.getElem_toArray, List.getElem_cons_succ, List.getElem_cons_zero, List.setIfInBounds_toArray, List.set_cons_zero, List.set_cons_succ]
      refine wpAnyH_take (i := 4) (v := ?vv46) rfl (by kernel_rfl) (by kernel_rfl) (by kernel_rfl) (fun _ _ _ h => h) (Or.inl ⟨by rfl, ?hy46⟩) (by assumption) ?rest46
      case hy46 => (intro w hSw; (try dsimp only at hSw); go_simp; first | done | with_reducible rfl)
      try simp only [Act.put, List.getElem_toArray, List.getElem_cons_succ, List.getElem_cons_zero, List.setIfInBounds_toArray, List.set_cons_zero, List.set_cons_succ]
      refine wpAnyH_take (i := 5) (v := ?vv47) rfl (by kernel_rfl) (by kernel_rfl) (by kernel_rfl) (fun _ _ _ h => h) (Or.inl ⟨by rfl, ?hy47⟩) (by assumption) ?rest47
      case hy47 => (intro w hSw; (try dsimp only at hSw); go_simp; first | done | with_reducible rfl)
      try simp only [Act.put, List.getElem_toArray, List.getElem_cons_succ, List.getElem_cons_zero, List.setIfInBounds_toArray, List.set_cons_zero, List.set_cons_succ]
      refine wpAnyH_take (i := 6) (v := ?vv48) rfl (by kernel_rfl) (by kernel_rfl) (by kernel_rfl) (fun _ _ _ h => h) (Or.inl ⟨by rfl, ?hy48⟩) (by assumption) ?rest48
      case hy48 => (intro w hSw; (try dsimp only at hSw); go_simp; first | done | with_reducible rfl)
      try simp only [Act.put, List.getElem_toArray, List.getElem_cons_succ, List.getElem_cons_zero, List.setIfInBounds_toArray, List.set_cons_zero, List.set_cons_succ]
      refine wpAnyH_take (i := 7) (v := ?vv49) rfl (by kernel_rfl) (by kernel_rfl) (by kernel_rfl) (fun _ _ _ h => h) (Or.inl ⟨by rfl, ?hy49⟩) (by assumption) ?rest49
      case hy49 => (intro w hSw; (try dsimp only at hSw); go_simp; first | done | with_reducible rfl)
      try simp only [Act.put, List.getElem_toArray, List.getElem_cons_succ, List.getElem_cons_zero, List.setIfInBounds_toArray, List.set_cons_zero, List.set_cons_succ]
      refine wpAnyH_take (i := 8) (v := ?vv50) rfl (by kernel_rfl) (by kernel_rfl) (by kernel_rfl) (fun _ _ _ h => h) (Or.inl ⟨by rfl, ?hy50⟩) (by assumption) ?rest50
      case hy50 => (intro w hSw; (try dsimp only at hSw); go_simp; first | done | with_reducible rfl)
      try simp only [Act.put, List.getElem_toArray, List.getElem_cons_succ, List.getElem_cons_zero, List.setIfInBounds_toArray, List.set_cons_zero, List.set_cons_succ]
      refine wpAnyH_ready (rs := [2]) (by kernel_rfl) (by simp) ?_
      refine AllReadyH.cons rfl (fun K hK => ?_) AllReadyH.nil
      go_simp
      refine (CHX.out _ D0.out).mono ?_
      rintro e wq15 ⟨rfl, bq⟩
      have BQ15 := hid (below_on D0.out bq)
      clear bq hHeld
      go_wp2_with fail
      refine hK.out _ _ (ZC.out _ BQ15.out) (fun hHeld => ?_)
      clear hK K
      try simp only [Act.put, List.getElem_toArray, List.getElem_cons_succ, List.getElem_cons_zero, List.setIfInBounds_toArray, List.set_cons_zero, List.set_cons_succ]
      refine wpAnyH_take (i := 9) (v := ?vv51) rfl (by kernel_rfl) (by kernel_rfl) (by kernel_rfl) (fun _ _ _ h => h) (Or.inl ⟨by rfl, ?hy51⟩) (by assumption) ?rest51
      case hy51 => (intro w hSw; (try dsimp only at hSw); go_simp; first | done | with_reducible rfl)
      try simp only [Act.put, List.getElem_toArray, List.getElem_cons_succ, List.getElem_cons_zero, List.setIfInBounds_toArray, List.set_cons_zero, List.set_cons_succ]
      refine wpAnyH_ready (rs := [10]) (by kernel_rfl) (by simp) ?_
      refine AllReadyH.cons rfl (fun K hK => ?_) AllReadyH.nil
      go_simp
      refine hK.out _ _ (ZC.out _ (below_al BQ15.out _)) (fun hHeld => ?_)
      clear hK K
      try simp only [Act.put, List.getElem_toArray, List.getElem_cons_succ, List.getElem_cons_zero, List.setIfInBounds_toArray, List.set_cons_zero, List.set_cons_succ]
      refine wpAnyH_ready (rs := [11]) (by kernel_rfl) (by simp) ?_
      refine AllReadyH.cons rfl (fun K hK => ?_) AllReadyH.nil
      go_simp
      refine (PX.out _ _ wq15 _ (F2.out.on BQ15.out) rfl).mono ?_
      rintro e u3 ⟨rfl, hF⟩
      have F3 := hid hF
      have m3 := F3.out.row HR.out HNE.out
      have ZC3 := And.intro (m3.cellAt (o := 4) rfl) (m3.cellAt (o := 5) rfl)
      clear hF m3
      go_wp2_with fail
      refine hK.out _ _ ZC3 (fun hHeld => ?_)
      clear hK K
      try simp only [Act.put, List.getElem_toArray, List.getElem_cons_succ, List.getElem_cons_zero, List.setIfInBounds_toArray, List.set_cons_zero, List.set_cons_succ]
      refine wpAnyH_done (by kernel_rfl) ?_ _
      clear hHeld ZC3 ZC CH CHX PX F2 D0 BQ15
      go_wp2_with fail
      refine (LA.out _ _ HBB.out F3.out).mono ?_
      rintro e u4 ⟨la, ln, lc, li, lt, lz, lb, lk, B', fl', dn', rfl, hF, hB⟩
      have F4 := hid hF
      have HB4 := hid hB
      clear hF hB F3 LA HBB
      go_wp2_with fail
      refine (PN.out _ _ _ _ F4.out).mono ?_
      rintro e u5 ⟨rfl, hF⟩
      have F5 := hid hF
      clear hF F4 PN
      have G0 := hid (F5.out.row HR.out HNE.out)
      have d1 := G0.out.cellAt (o := 4) rfl
      have d2 := G0.out.cellAt (o := 5) rfl
      go_wp2_with fail
      refine (FL.out _ _ _ _ _ _ HB4.out F5.out).mono ?_
      rintro e u6 ⟨rfl, hF⟩
      have F6 := hid hF
      clear hF F5 G0 d1 d2 FL
      go_wp2_with fail
      refine (UP.out _ _ _ F6.out).mono ?_
      rintro e u7 ⟨rfl, hF⟩
      have F7 := hid hF
      clear hF F6 UP
      go_wp2_with fail
      refine (LB.out _ _ HB4.out F7.out).mono ?_
      rintro e u8 ⟨sa, sc, n8, rfl, hI, hF⟩
      have F8 := hid hF
      have I8 := hid hI
      clear hF hI F7 LB HB4
      obtain ⟨ix, tm, ms, da⟩ := x
      simp only at *
      have AL := hid (below_al (Below.refl u8.heap.size u8) (.cells #[.int .i64 ix, .int .i64 tm, .slice sa ms.length sc, .string da] 36))
      have R9 : Hid (RowIs (u8.alloc (.cells #[.int .i64 ix, .int .i64 tm, .slice sa ms.length sc, .string da] 36)) u8.heap.size [.int .i64 ix, .int .i64 tm, .slice sa ms.length sc, .string da] 36) := srow u8 _ _
      have F9 := hid (F8.out.on AL.out)
      have I9 := hid (I8.out.next AL.out)
      clear F8 I8 AL
      have hbi : decide ((0 : Int) < (ms.length : Int)) = decide (0 < ms.length) := by by_cases h : 0 < ms.length <;> simp [h]
      have hbj : decide ((ms.length : Int) > 0) = decide (0 < ms.length) := by by_cases h : 0 < ms.length <;> simp [h]
      generalize hbn : decide (0 < ms.length) = bb at *
      have hbb : (!bb == bb) = false := by cases bb <;> rfl
      have hbc : (bb != bb) = false := by cases bb <;> rfl
      go_upto_region 27 with fail
      clear hbi hbj hbb hbc hbn
      generalize u8.alloc (.cells #[.int .i64 ix, .int .i64 tm, .slice sa ms.length sc, .string da] 36) = X at *
      generalize u8.heap.size = qs at *
      obtain ⟨v0, i0, t0, m0, s0⟩ := y0
      obtain ⟨v1, i1, t1, m1, s1⟩ := y1
      simp only at *
      obtain ⟨a0, k0, rfl, -⟩ := IY.out.1.1.form
      obtain ⟨a1, k1, rfl, -⟩ := IY.out.2.1.form
      have BW := hid (HB.out _ _ _ _ _ _ F9.out)
      have ZC : Hid (∀ W, Below X.heap.size X W → (fun w' => w'.cell? ⟨qs, 0, none⟩ = some (.int .i64 ix) ∧ w'.cell? ⟨qs, 1, none⟩ = some (.int .i64 tm) ∧ w'.cell? ⟨qs, 2, none⟩ = some (.slice sa ms.length sc) ∧ w'.cell? ⟨qs, 3, none⟩ = some (.string da) ∧ w'.cell? ⟨b6, 0, none⟩ = some (.int .i64 i0) ∧ w'.cell? ⟨b6, 1, none⟩ = some (.int .i64 t0) ∧ w'.cell? ⟨b6, 2, none⟩ = some (.slice a0 m0.length k0) ∧ w'.cell? ⟨b6, 3, none⟩ = some (.string s0) ∧ w'.cell? ⟨b7, 0, none⟩ = some (.int .i64 i1) ∧ w'.cell? ⟨b7, 1, none⟩ = some (.int .i64 t1) ∧ w'.cell? ⟨b7, 2, none⟩ = some (.slice a1 m1.length k1) ∧ w'.cell? ⟨b7, 3, none⟩ = some (.string s1)) W) := fun W hW => by
        have m1 := R9.out.keep (hW.keep (fun _ => False)) (fun h => h)
        have m2 := (F9.out.on hW).r6
        have m3 := (F9.out.on hW).r7
        exact ⟨m1.cellAt rfl, m1.cellAt rfl, m1.cellAt rfl, m1.cellAt rfl, m2.cellAt rfl, m2.cellAt rfl, m2.cellAt rfl, m2.cellAt rfl, m3.cellAt rfl, m3.cellAt rfl, m3.cellAt rfl, m3.cellAt rfl⟩
      have RFX : Hid (∀ W, Below X.heap.size X W → Calls Try.prog 10 #[.agg #[.int .i64 ix, .int .i64 tm, .slice sa ms.length sc, .string da]] W fun e w' => e = .returned (.agg #[.int .i64 ix, .int .i64 tm, .slice sa ms.length sc, .string da]) ∧ Below W.heap.size W w') := fun W _ => RF.out _ _ _ _ _ _ W
      have SM1 : Hid (∀ W, Below X.heap.size X W → Calls Try.prog 16 #[.agg #[.int .i64 ix, .int .i64 tm, .slice sa ms.length sc, .string da], .agg #[.int .i64 i0, .int .i64 t0, .slice a0 m0.length k0, .string s0]] W fun e w' => e = .returned (.bool (smS ⟨ix, tm, ms, da⟩ ⟨i0, t0, m0, s0⟩)) ∧ Below W.heap.size W w') := fun W hW => rsame_any _ _ ⟨ix, tm, ms, da⟩ ⟨i0, t0, m0, s0⟩ W (I9.out.next hW) (IY.out.1.1.next (below_on BW.out hW)) (by have := HXL.out; show ms.length ≤ _; omega)
      have SM2 : Hid (∀ W, Below X.heap.size X W → Calls Try.prog 16 #[.agg #[.int .i64 ix, .int .i64 tm, .slice sa ms.length sc, .string da], .agg #[.int .i64 i1, .int .i64 t1, .slice a1 m1.length k1, .string s1]] W fun e w' => e = .returned (.bool (smS ⟨ix, tm, ms, da⟩ ⟨i1, t1, m1, s1⟩)) ∧ Below W.heap.size W w') := fun W hW => rsame_any _ _ ⟨ix, tm, ms, da⟩ ⟨i1, t1, m1, s1⟩ W (I9.out.next hW) (IY.out.2.1.next (below_on BW.out hW)) (by have := HXL.out; show ms.length ≤ _; omega)
      have HOR : Hid (smS ⟨ix, tm, ms, da⟩ ⟨i0, t0, m0, s0⟩ = false → smS ⟨ix, tm, ms, da⟩ ⟨i1, t1, m1, s1⟩ = true) := fun h => by
        rcases HXX.out with e | e
        · rw [e] at h; simp [smS] at h
        · rw [e]; simp [smS]
      generalize smS ⟨ix, tm, ms, da⟩ ⟨i0, t0, m0, s0⟩ = B1 at *
      generalize smS ⟨ix, tm, ms, da⟩ ⟨i1, t1, m1, s1⟩ = B2 at *
      have D0 := hid (Below.refl X.heap.size X).drew
      clear RF R9 F9 I9 IY HXX HXL AW HR
      cases B1 with
      | true =>
        refine wp_region_held_drew (S := (fun w' => w'.cell? ⟨qs, 0, none⟩ = some (.int .i64 ix) ∧ w'.cell? ⟨qs, 1, none⟩ = some (.int .i64 tm) ∧ w'.cell? ⟨qs, 2, none⟩ = some (.slice sa ms.length sc) ∧ w'.cell? ⟨qs, 3, none⟩ = some (.string da) ∧ w'.cell? ⟨b6, 0, none⟩ = some (.int .i64 i0) ∧ w'.cell? ⟨b6, 1, none⟩ = some (.int .i64 t0) ∧ w'.cell? ⟨b6, 2, none⟩ = some (.slice a0 m0.length k0) ∧ w'.cell? ⟨b6, 3, none⟩ = some (.string s0) ∧ w'.cell? ⟨b7, 0, none⟩ = some (.int .i64 i1) ∧ w'.cell? ⟨b7, 1, none⟩ = some (.int .i64 t1) ∧ w'.cell? ⟨b7, 2, none⟩ = some (.slice a1 m1.length k1) ∧ w'.cell? ⟨b7, 3, none⟩ = some (.string s1))) (by kernel_rfl) (ZC.out _ D0.out) (fun hHeld => ?_)
        refine wpAnyH_take (i := 0) (v := ?vv52) rfl (by kernel_rfl) (by kernel_rfl) (by kernel_rfl) (fun _ _ _ h => h) (Or.inl ⟨by rfl, ?hy52⟩) (by assumption) ?rest52
        case hy52 => (intro w hSw; (try dsimp only at hSw); go_simp; first | done | with_reducible rfl)
        try simp only [Act.put, List.getElem_toArray, List.getElem_cons_succ, List.getElem_cons_zero, List.setIfInBounds_toArray, List.set_cons_zero, List.set_cons_succ]
        refine wpAnyH_take (i := 2) (v := ?vv53) rfl (by kernel_rfl) (by kernel_rfl) (by kernel_rfl) (fun _ _ _ h => h) (Or.inl ⟨by rfl, ?hy53⟩) (by assumption) ?rest53
        case hy53 => (intro w hSw; (try dsimp only at hSw); go_simp; first | done | with_reducible rfl)
        try simp only [Act.put, List.getElem_toArray, List.getElem_cons_succ, List.getElem_cons_zero, List.setIfInBounds_toArray, List.set_cons_zero, List.set_cons_succ]
        refine wpAnyH_ready (rs := [1]) (by kernel_rfl) (by simp) ?_
        refine AllReadyH.cons rfl (fun K hK => ?_) AllReadyH.nil
        go_simp
        refine (RFX.out _ D0.out).mono ?_
        rintro e wq16 ⟨rfl, bq⟩
        have BQ16 := hid (below_on D0.out bq)
        clear bq hHeld
        go_wp2_with fail
        refine hK.out _ _ (ZC.out _ BQ16.out) (fun hHeld => ?_)
        clear hK K
        try simp only [Act.put, List.getElem_toArray, List.getElem_cons_succ, List.getElem_cons_zero, List.setIfInBounds_toArray, List.set_cons_zero, List.set_cons_succ]
        refine wpAnyH_ready (rs := [3]) (by kernel_rfl) (by simp) ?_
        refine AllReadyH.cons rfl (fun K hK => ?_) AllReadyH.nil
        go_simp
        refine (SM1.out _ BQ16.out).mono ?_
        rintro e wq17 ⟨rfl, bq⟩
        have BQ17 := hid (below_on BQ16.out bq)
        clear bq hHeld
        go_wp2_with fail
        refine hK.out _ _ (ZC.out _ BQ17.out) (fun hHeld => ?_)
        clear hK K
        try simp only [Act.put, List.getElem_toArray, List.getElem_cons_succ, List.getElem_cons_zero, List.setIfInBounds_toArray, List.set_cons_zero, List.set_cons_succ]
        refine wpAnyH_take (i := 4) (v := ?vv54) rfl (by kernel_rfl) (by kernel_rfl) (by kernel_rfl) (fun _ _ _ h => h) (Or.inl ⟨by rfl, ?hy54⟩) (by assumption) ?rest54
        case hy54 => (intro w hSw; (try dsimp only at hSw); go_simp; first | done | with_reducible rfl)
        try simp only [Act.put, List.getElem_toArray, List.getElem_cons_succ, List.getElem_cons_zero, List.setIfInBounds_toArray, List.set_cons_zero, List.set_cons_succ]
        refine wpAnyH_take (i := 5) (v := undef) rfl (by kernel_rfl) (by kernel_rfl) (by kernel_rfl) (fun _ _ _ h => h) (Or.inr ⟨by rfl, rfl⟩) (by assumption) ?_
        try simp only [Act.put, List.getElem_toArray, List.getElem_cons_succ, List.getElem_cons_zero, List.setIfInBounds_toArray, List.set_cons_zero, List.set_cons_succ]
        refine wpAnyH_take (i := 6) (v := undef) rfl (by kernel_rfl) (by kernel_rfl) (by kernel_rfl) (fun _ _ _ h => h) (Or.inr ⟨by rfl, rfl⟩) (by assumption) ?_
        try simp only [Act.put, List.getElem_toArray, List.getElem_cons_succ, List.getElem_cons_zero, List.setIfInBounds_toArray, List.set_cons_zero, List.set_cons_succ]
        refine wpAnyH_take (i := 7) (v := undef) rfl (by kernel_rfl) (by kernel_rfl) (by kernel_rfl) (fun _ _ _ h => h) (Or.inr ⟨by rfl, rfl⟩) (by assumption) ?_
        try simp only [Act.put, List.getElem_toArray, List.getElem_cons_succ, List.getElem_cons_zero, List.setIfInBounds_toArray, List.set_cons_zero, List.set_cons_succ]
        refine wpAnyH_take (i := 8) (v := undef) rfl (by kernel_rfl) (by kernel_rfl) (by kernel_rfl) (fun _ _ _ h => h) (Or.inr ⟨by rfl, rfl⟩) (by assumption) ?_
        try simp only [Act.put, List.getElem_toArray, List.getElem_cons_succ, List.getElem_cons_zero, List.setIfInBounds_toArray, List.set_cons_zero, List.set_cons_succ]
        refine wpAnyH_take (i := 9) (v := ?vv55) rfl (by kernel_rfl) (by kernel_rfl) (by kernel_rfl) (fun _ _ _ h => h) (Or.inl ⟨by rfl, ?hy55⟩) (by assumption) ?rest55
        case hy55 => (intro w hSw; (try dsimp only at hSw); go_simp; first | done | with_reducible rfl)
        try simp only [Act.put, List.getElem_toArray, List.getElem_cons_succ, List.getElem_cons_zero, List.setIfInBounds_toArray, List.set_cons_zero, List.set_cons_succ]
        refine wpAnyH_take (i := 10) (v := ?vv56) rfl (by kernel_rfl) (by kernel_rfl) (by kernel_rfl) (fun _ _ _ h => h) (Or.inl ⟨by rfl, ?hy56⟩) (by assumption) ?rest56
        case hy56 => (intro w hSw; (try dsimp only at hSw); go_simp; first | done | with_reducible rfl)
        try simp only [Act.put, List.getElem_toArray, List.getElem_cons_succ, List.getElem_cons_zero, List.setIfInBounds_toArray, List.set_cons_zero, List.set_cons_succ]
        refine wpAnyH_done (by kernel_rfl) ?_ _
        clear hHeld ZC
        go_wp2
        go_ret
        exact ⟨rfl, below_on BW.out BQ17.out⟩
      | false =>
        have hb2 : B2 = true := HOR.out rfl
        subst hb2
        clear HOR
        refine wp_region_held_drew (S := (fun w' => w'.cell? ⟨qs, 0, none⟩ = some (.int .i64 ix) ∧ w'.cell? ⟨qs, 1, none⟩ = some (.int .i64 tm) ∧ w'.cell? ⟨qs, 2, none⟩ = some (.slice sa ms.length sc) ∧ w'.cell? ⟨qs, 3, none⟩ = some (.string da) ∧ w'.cell? ⟨b6, 0, none⟩ = some (.int .i64 i0) ∧ w'.cell? ⟨b6, 1, none⟩ = some (.int .i64 t0) ∧ w'.cell? ⟨b6, 2, none⟩ = some (.slice a0 m0.length k0) ∧ w'.cell? ⟨b6, 3, none⟩ = some (.string s0) ∧ w'.cell? ⟨b7, 0, none⟩ = some (.int .i64 i1) ∧ w'.cell? ⟨b7, 1, none⟩ = some (.int .i64 t1) ∧ w'.cell? ⟨b7, 2, none⟩ = some (.slice a1 m1.length k1) ∧ w'.cell? ⟨b7, 3, none⟩ = some (.string s1))) (by kernel_rfl) (ZC.out _ D0.out) (fun hHeld => ?_)
        refine wpAnyH_take (i := 0) (v := ?vv57) rfl (by kernel_rfl) (by kernel_rfl) (by kernel_rfl) (fun _ _ _ h => h) (Or.inl ⟨by rfl, ?hy57⟩) (by assumption) ?rest57
        case hy57 => (intro w hSw; (try dsimp only at hSw); go_simp; first | done | with_reducible rfl)
        try simp only [Act.put, List.getElem_toArray, List.getElem_cons_succ, List.getElem_cons_zero, List.setIfInBounds_toArray, List.set_cons_zero, List.set_cons_succ]
        refine wpAnyH_take (i := 2) (v := ?vv58) rfl (by kernel_rfl) (by kernel_rfl) (by kernel_rfl) (fun _ _ _ h => h) (Or.inl ⟨by rfl, ?hy58⟩) (by assumption) ?rest58
        case hy58 => (intro w hSw; (try dsimp only at hSw); go_simp; first | done | with_reducible rfl)
        try simp only [Act.put, List.getElem_toArray, List.getElem_cons_succ, List.getElem_cons_zero, List.setIfInBounds_toArray, List.set_cons_zero, List.set_cons_succ]
        refine wpAnyH_ready (rs := [1]) (by kernel_rfl) (by simp) ?_
        refine AllReadyH.cons rfl (fun K hK => ?_) AllReadyH.nil
        go_simp
        refine (RFX.out _ D0.out).mono ?_
        rintro e wq18 ⟨rfl, bq⟩
        have BQ18 := hid (below_on D0.out bq)
        clear bq hHeld
        go_wp2_with fail
        refine hK.out _ _ (ZC.out _ BQ18.out) (fun hHeld => ?_)
        clear hK K
        try simp only [Act.put, List.getElem_toArray, List.getElem_cons_succ, List.getElem_cons_zero, List.setIfInBounds_toArray, List.set_cons_zero, List.set_cons_succ]
        refine wpAnyH_ready (rs := [3]) (by kernel_rfl) (by simp) ?_
        refine AllReadyH.cons rfl (fun K hK => ?_) AllReadyH.nil
        go_simp
        refine (SM1.out _ BQ18.out).mono ?_
        rintro e wq19 ⟨rfl, bq⟩
        have BQ19 := hid (below_on BQ18.out bq)
        clear bq hHeld
        go_wp2_with fail
        refine hK.out _ _ (ZC.out _ BQ19.out) (fun hHeld => ?_)
        clear hK K
        try simp only [Act.put, List.getElem_toArray, List.getElem_cons_succ, List.getElem_cons_zero, List.setIfInBounds_toArray, List.set_cons_zero, List.set_cons_succ]
        refine wpAnyH_take (i := 4) (v := ?vv59) rfl (by kernel_rfl) (by kernel_rfl) (by kernel_rfl) (fun _ _ _ h => h) (Or.inl ⟨by rfl, ?hy59⟩) (by assumption) ?rest59
        case hy59 => (intro w hSw; (try dsimp only at hSw); go_simp; first | done | with_reducible rfl)
        try simp only [Act.put, List.getElem_toArray, List.getElem_cons_succ, List.getElem_cons_zero, List.setIfInBounds_toArray, List.set_cons_zero, List.set_cons_succ]
        refine wpAnyH_take (i := 5) (v := ?vv60) rfl (by kernel_rfl) (by kernel_rfl) (by kernel_rfl) (fun _ _ _ h => h) (Or.inl ⟨by rfl, ?hy60⟩) (by assumption) ?rest60
        case hy60 => (intro w hSw; (try dsimp only at hSw); go_simp; first | done | with_reducible rfl)
        try simp only [Act.put, List.getElem_toArray, List.getElem_cons_succ, List.getElem_cons_zero, List.setIfInBounds_toArray, List.set_cons_zero, List.set_cons_succ]
        refine wpAnyH_take (i := 7) (v := ?vv61) rfl (by kernel_rfl) (by kernel_rfl) (by kernel_rfl) (fun _ _ _ h => h) (Or.inl ⟨by rfl, ?hy61⟩) (by assumption) ?rest61
        case hy61 => (intro w hSw; (try dsimp only at hSw); go_simp; first | done | with_reducible rfl)
        try simp only [Act.put, List.getElem_toArray, List.getElem_cons_succ, List.getElem_cons_zero, List.setIfInBounds_toArray, List.set_cons_zero, List.set_cons_succ]
        refine wpAnyH_ready (rs := [6]) (by kernel_rfl) (by simp) ?_
        refine AllReadyH.cons rfl (fun K hK => ?_) AllReadyH.nil
        go_simp
        refine (RFX.out _ BQ19.out).mono ?_
        rintro e wq20 ⟨rfl, bq⟩
        have BQ20 := hid (below_on BQ19.out bq)
        clear bq hHeld
        go_wp2_with fail
        refine hK.out _ _ (ZC.out _ BQ20.out) (fun hHeld => ?_)
        clear hK K
        try simp only [Act.put, List.getElem_toArray, List.getElem_cons_succ, List.getElem_cons_zero, List.setIfInBounds_toArray, List.set_cons_zero, List.set_cons_succ]
        refine wpAnyH_ready (rs := [8]) (by kernel_rfl) (by simp) ?_
        refine AllReadyH.cons rfl (fun K hK => ?_) AllReadyH.nil
        go_simp
        refine (SM2.out _ BQ20.out).mono ?_
        rintro e wq21 ⟨rfl, bq⟩
        have BQ21 := hid (below_on BQ20.out bq)
        clear bq hHeld
        go_wp2_with fail
        refine hK.out _ _ (ZC.out _ BQ21.out) (fun hHeld => ?_)
        clear hK K
        try simp only [Act.put, List.getElem_toArray, List.getElem_cons_succ, List.getElem_cons_zero, List.setIfInBounds_toArray, List.set_cons_zero, List.set_cons_succ]
        refine wpAnyH_take (i := 9) (v := ?vv62) rfl (by kernel_rfl) (by kernel_rfl) (by kernel_rfl) (fun _ _ _ h => h) (Or.inl ⟨by rfl, ?hy62⟩) (by assumption) ?rest62
        case hy62 => (intro w hSw; (try dsimp only at hSw); go_simp; first | done | with_reducible rfl)
        try simp only [Act.put, List.getElem_toArray, List.getElem_cons_succ, List.getElem_cons_zero, List.setIfInBounds_toArray, List.set_cons_zero, List.set_cons_succ]
        refine wpAnyH_take (i := 10) (v := ?vv63) rfl (by kernel_rfl) (by kernel_rfl) (by kernel_rfl) (fun _ _ _ h => h) (Or.inl ⟨by rfl, ?hy63⟩) (by assumption) ?rest63
        case hy63 => (intro w hSw; (try dsimp only at hSw); go_simp; first | done | with_reducible rfl)
        try simp only [Act.put, List.getElem_toArray, List.getElem_cons_succ, List.getElem_cons_zero, List.setIfInBounds_toArray, List.set_cons_zero, List.set_cons_succ]
        refine wpAnyH_done (by kernel_rfl) ?_ _
        clear hHeld ZC
        go_wp2
        go_ret
        exact ⟨rfl, below_on BW.out BQ21.out⟩
end Go.Proofs.Ytflecoplpdbonaa
