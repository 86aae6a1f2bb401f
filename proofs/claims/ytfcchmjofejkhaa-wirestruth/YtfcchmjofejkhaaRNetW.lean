/- The reference's net: Cut of two nodes. -/
import Derived.Test.YtfcchmjofejkhaaRNetV
namespace Go.Proofs.Ytfcchmjofejkhaa
open Go.RowKit Go.Maps
set_option linter.unusedVariables false
set_option linter.unusedSimpArgs false

set_option maxRecDepth 100000 in
set_option maxHeartbeats 4000000 in
theorem rcut_some (lv cv : Value) (m : RNet) (a b : Int) (w : World) (h : RfIs w lv cv m) (ht : two a b = true) (hlo : m.lo + 4096 < 1152921504606846976) (hcs : m.cs.length < 100000) : Calls Try.prog 28 #[rmV lv cv m, .int .i64 a, .int .i64 b] w fun e w' => ∃ lv' cv', e = .returned (.tuple #[rmV lv' cv' (rloseD { m with cs := m.cs ++ [(a, b)] } (fun x => rcut (m.cs ++ [(a, b)]) x.fr x.tt)), .int .i64 ((m.L.length - (m.L.filter (fun x => !rcut (m.cs ++ [(a, b)]) x.fr x.tt)).length : Nat) : Int)]) ∧ RfIs w' lv' cv' (rloseD { m with cs := m.cs ++ [(a, b)] } (fun x => rcut (m.cs ++ [(a, b)]) x.fr x.tt)) ∧ Keep (fun _ => False) w w' := by
  obtain ⟨ad1, c1, rfl⟩ := row_form h.l
  obtain ⟨ad2, c2, rfl⟩ := row_form h.c
  have H := hid h
  have hll := h.ll
  have HT : Hid (two a b = (isN a && isN b && !decide (a = b))) := rfl
  have NA := hid (fun W => rnode_any a W)
  have NB := hid (fun W => rnode_any b W)
  obtain ⟨_, _, _, _, hab⟩ := two_bounds ht
  rw [ht] at HT
  have hna : isN a = true := by simp [two] at ht; exact ht.1.1
  have hnb : isN b = true := by simp [two] at ht; exact ht.1.2
  rw [hna] at NA
  rw [hnb] at NB
  have hfd : decide (a = b) = false := decide_eq_false hab
  have hfe : (a == b) = false := by simpa using hab
  unfold rmV
  clear h HT hna hnb hab ht
  have K0 : Hid (Keep (fun _ => False) w ((w.alloc (.cells #[.slice ad1 m.L.length c1, .slice ad2 m.cs.length c2, .int .i64 m.se, .int .i64 m.ta, .int .i64 m.lo] 28)).alloc (.cells #[.slice none 0 0, .slice none 0 0, .int .i64 0, .int .i64 0, .int .i64 0] 28))) := (keep_alloc _ _ _).trans (keep_alloc _ _ _)
  have HA := hid ((row1 w [.slice ad1 m.L.length c1, .slice ad2 m.cs.length c2, .int .i64 m.se, .int .i64 m.ta, .int .i64 m.lo] 28).keep (keep_alloc (fun _ => False) _ (.cells #[.slice none 0 0, .slice none 0 0, .int .i64 0, .int .i64 0, .int .i64 0] 28)) (fun h => h))
  have HZ := hid (row2 w (.cells #[.slice ad1 m.L.length c1, .slice ad2 m.cs.length c2, .int .i64 m.se, .int .i64 m.ta, .int .i64 m.lo] 28) [.slice none 0 0, .slice none 0 0, .int .i64 0, .int .i64 0, .int .i64 0] 28)
  have HE : Hid ((((w.alloc (.cells #[.slice ad1 m.L.length c1, .slice ad2 m.cs.length c2, .int .i64 m.se, .int .i64 m.ta, .int .i64 m.lo] 28)).alloc (.cells #[.slice none 0 0, .slice none 0 0, .int .i64 0, .int .i64 0, .int .i64 0] 28)).alloc (Obj.cells #[] 72)).ownsRow ((w.alloc (.cells #[.slice ad1 m.L.length c1, .slice ad2 m.cs.length c2, .int .i64 m.se, .int .i64 m.ta, .int .i64 m.lo] 28)).alloc (.cells #[.slice none 0 0, .slice none 0 0, .int .i64 0, .int .i64 0, .int .i64 0] 28)).heap.size 72 2 (.slice (some ⟨((w.alloc (.cells #[.slice ad1 m.L.length c1, .slice ad2 m.cs.length c2, .int .i64 m.se, .int .i64 m.ta, .int .i64 m.lo] 28)).alloc (.cells #[.slice none 0 0, .slice none 0 0, .int .i64 0, .int .i64 0, .int .i64 0] 28)).heap.size, 0, none⟩) 0 0) 0 []) := own_empty (heap_alloc_new _ _) (Nat.le_refl _)
  go_enter Try.func28, Try.ntmps28
  go_wp2_with fail
  refine (NA.out _).mono ?_
  rintro e w9 ⟨rfl, rfl⟩
  go_wp2_with fail
  refine (NB.out _).mono ?_
  rintro e w9 ⟨rfl, rfl⟩
  clear NA NB
  generalize ((w.alloc (.cells #[.slice ad1 m.L.length c1, .slice ad2 m.cs.length c2, .int .i64 m.se, .int .i64 m.ta, .int .i64 m.lo] 28)).alloc (.cells #[.slice none 0 0, .slice none 0 0, .int .i64 0, .int .i64 0, .int .i64 0] 28)) = w1 at *
  have a0 := HA.out.cellAt (o := 0) rfl
  have a1 := HA.out.cellAt (o := 1) rfl
  have a2 := HA.out.cellAt (o := 2) rfl
  have a3 := HA.out.cellAt (o := 3) rfl
  have a4 := HA.out.cellAt (o := 4) rfl
  have f0 := HA.out.frozen (o := 0)
  have f1 := HA.out.frozen (o := 1)
  have f2 := HA.out.frozen (o := 2)
  have f3 := HA.out.frozen (o := 3)
  have f4 := HA.out.frozen (o := 4)
  have ka := keep_alloc (fun _ => False) w1 (Obj.cells #[] 72)
  have b1 := (HA.out.keep ka (fun h => h)).cellAt (o := 1) rfl
  have HG1 := hid (gsrc_all (ka.ownsRow (K0.out.ownsRow H.out.c (fun _ _ h => h)) (fun _ _ h => h)))
  have HS1 : Hid (w1.heap.size ≤ (w1.alloc (Obj.cells #[] 72)).heap.size) := by show _ ≤ _; simp
  have HZ0 : Hid (0 + m.cs.length = m.cs.length) := Nat.zero_add _
  have LC : Hid ((prs m.cs).length = m.cs.length * 2) := prs_len _
  have OC := hid (prs_one m.cs)
  have OX := hid (prs_one [(a, b)])
  have B1 : Hid (m.cs.length ≤ 70368744177) := by show _ ≤ _; omega
  have B2 : Hid (m.cs.length * 16 ≤ 140737488355328) := by show _ ≤ _; omega
  have B3 : Hid (m.cs.length + 1 ≤ 70368744177) := by show _ ≤ _; omega
  have B4 : Hid ((m.cs.length + 1) * 16 ≤ 140737488355328) := by show _ ≤ _; omega
  have HF2 : Hid (∀ (ad3 : Option Addr) (cap3 : Nat) w2, w2.ownsRow w1.heap.size 72 2 (.slice ad3 m.cs.length cap3) m.cs.length ([] ++ prs m.cs) → Keep (fun k => (Value.slice (some ⟨w1.heap.size, 0, none⟩) 0 0).ownBlock = some k) (w1.alloc (Obj.cells #[] 72)) w2 → Keep (fun _ => False) w1 (w2.alloc (Obj.cells #[.int .i64 a, .int .i64 b] 72)) ∧ (w2.alloc (Obj.cells #[.int .i64 a, .int .i64 b] 72)).ownsRow w1.heap.size 72 2 (.slice ad3 m.cs.length cap3) m.cs.length ([] ++ prs m.cs) ∧ w1.heap.size ≤ (w2.alloc (Obj.cells #[.int .i64 a, .int .i64 b] 72)).heap.size ∧ GSrc (w2.alloc (Obj.cells #[.int .i64 a, .int .i64 b] 72)) (.slice (some ⟨w2.heap.size, 0, none⟩) 1 1) 1 (prs [(a, b)])) := fun ad3 cap3 w2 hr hk => by
    have k1 : Keep (fun _ => False) w1 w2 := ka.then hk (fun j hj e => by have e2 := Option.some.inj (show some w1.heap.size = some j from e); omega)
    have k2 := k1.trans (keep_alloc (fun _ => False) w2 (Obj.cells #[.int .i64 a, .int .i64 b] 72))
    exact ⟨k2, (keep_alloc (fun _ => False) w2 _).ownsRow hr (fun _ _ h => h), k2.size, gsrc_block (heap_alloc_new _ _)⟩
  have HF3 : Hid (∀ w3, Keep (fun _ => False) w1 w3 → w3.cell? ⟨w.heap.size, 1, none⟩ = some (.slice ad2 m.cs.length c2) ∧ w3.frozen? ⟨w.heap.size, 1, none⟩ = false) := fun w3 k => ⟨(HA.out.keep k (fun h => h)).cellAt rfl, (HA.out.keep k (fun h => h)).frozen⟩
  clear ka
  go_wp2_with (first | (at_builtin; refine wpl_gapp rfl _ _ ElPr rfl w1.heap.size (.slice (some ⟨w1.heap.size, 0, none⟩) 0 0) (.slice ad2 m.cs.length c2) [] (prs m.cs) 0 m.cs.length m.cs.length HZ0.out rfl rfl HE.out HS1.out HG1.out LC.out OC.out B1.out B2.out ?_; intro ad3 cap3 w2 hr2 hk2; obtain ⟨g1, g2, g3, g4⟩ := HF2.out ad3 cap3 w2 hr2 hk2) | (at_builtin; refine wpl_gapp rfl _ _ ElPr rfl w1.heap.size (.slice ad3 m.cs.length cap3) (.slice (some ⟨w2.heap.size, 0, none⟩) 1 1) ([] ++ prs m.cs) (prs [(a, b)]) m.cs.length 1 (m.cs.length + 1) rfl rfl rfl g2 g3 g4 rfl OX.out B3.out B4.out ?_; intro ad4 cap4 w3 hr3 hk3; have HK3 : Hid (Keep (fun _ => False) w1 w3) := g1.then hk3 (fun j hj e => by have := ownsRow_ge g2 e; omega); obtain ⟨q1, q2⟩ := HF3.out w3 HK3.out))

  have rA := (HA.out.keep HK3.out (fun h => h)).set 1 (.slice ad4 (m.cs.length + 1) cap4)
  have HA4 : Hid (RowIs (w3.setCell ⟨w.heap.size, 1, none⟩ (.slice ad4 (m.cs.length + 1) cap4)) w.heap.size [.slice ad1 m.L.length c1, .slice ad4 (m.cs.length + 1) cap4, .int .i64 m.se, .int .i64 m.ta, .int .i64 m.lo] 28) := rA
  have HZ4 := hid ((HZ.out.keep HK3.out (fun h => h)).keep (keep_setCell w3 w.heap.size 1 (.slice ad4 (m.cs.length + 1) cap4)) (fun e => by omega))
  have hsz := HZ.out.lt
  have K4 : Hid (Keep (fun _ => False) w (w3.setCell ⟨w.heap.size, 1, none⟩ (.slice ad4 (m.cs.length + 1) cap4))) := (K0.out.trans HK3.out).then (keep_setCell _ _ _ _) (fun j hj e => by omega)
  have RF : Hid (RfIs (w3.setCell ⟨w.heap.size, 1, none⟩ (.slice ad4 (m.cs.length + 1) cap4)) (.slice ad1 m.L.length c1) (.slice ad4 (m.cs.length + 1) cap4) { m with cs := m.cs ++ [(a, b)] }) := by
    refine ⟨K4.out.ownsRow H.out.l (fun _ _ h => h), ?_, H.out.ll, ?_, H.out.se, H.out.ta, H.out.lo⟩
    · show World.ownsRow _ 0 _ 2 _ (m.cs ++ [(a, b)]).length (prs (m.cs ++ [(a, b)]))
      rw [List.length_append, prs_app]
      exact (keep_setCell _ _ _ _).ownsRow (ownsRow_base hr3 (Nat.zero_le _)) (fun g e e2 => by have := ownsRow_ge hr3 e; omega)
    · show (m.cs ++ [(a, b)]).length ≤ _
      simp; omega
  have HCB : Hid ((Value.slice ad4 (m.cs.length + 1) cap4).ownBlock ≠ some w.heap.size ∧ (Value.slice ad4 (m.cs.length + 1) cap4).ownBlock ≠ some (w.heap.size + 1)) := ⟨fun e => by have := ownsRow_ge hr3 e; omega, fun e => by have := ownsRow_ge hr3 e; omega⟩
  have HSZ : Hid (w.heap.size + 1 < (w3.setCell ⟨w.heap.size, 1, none⟩ (.slice ad4 (m.cs.length + 1) cap4)).heap.size) := HZ4.out.lt
  clear rA hr2 hk2 g1 g2 g3 g4 hr3 hk3 q1 q2 HK3 HF2 HF3 HA HZ a0 a1 a2 a3 a4 f0 f1 f2 f3 f4 b1 HG1 HS1 HZ0 LC OC OX B1 B2 B3 B4 HE K0 hsz hfd hfe
  generalize w3.setCell ⟨w.heap.size, 1, none⟩ (.slice ad4 (m.cs.length + 1) cap4) = w4 at *
  have hfl := filt_le m.L (fun x => !rcut (m.cs ++ [(a, b)]) x.fr x.tt)
  have HRL : Hid (rloseD { m with cs := m.cs ++ [(a, b)] } (fun x => rcut (m.cs ++ [(a, b)]) x.fr x.tt) = { m with cs := m.cs ++ [(a, b)], L := m.L.filter (fun x => !rcut (m.cs ++ [(a, b)]) x.fr x.tt), lo := m.lo + (m.L.length - (m.L.filter (fun x => !rcut (m.cs ++ [(a, b)]) x.fr x.tt)).length) }) := rfl
  have IC := hid (fun (x : Pk) W (hW : Keep (fun _ => False) w4 W) => risCut_any (.slice ad1 m.L.length c1) (.slice ad4 (m.cs.length + 1) cap4) { m with cs := m.cs ++ [(a, b)] } x.fr x.tt W (RF.out.keep hW))
  unfold rmV at IC
  simp only at IC
  go_loopw [8, 9] (fun sl i wr => ∃ (k : Nat) (ad : Option Addr) (cap : Nat), k ≤ m.L.length ∧ sl = .slice ad ((m.L.take k).filter (fun x => !rcut (m.cs ++ [(a, b)]) x.fr x.tt)).length cap ∧ i = .int .i64 (k : Int) ∧ Hid (wr.ownsRow w4.heap.size 58 3 (.slice ad ((m.L.take k).filter (fun x => !rcut (m.cs ++ [(a, b)]) x.fr x.tt)).length cap) ((m.L.take k).filter (fun x => !rcut (m.cs ++ [(a, b)]) x.fr x.tt)).length (pks ((m.L.take k).filter (fun x => !rcut (m.cs ++ [(a, b)]) x.fr x.tt)))) ∧ Hid (Keep (fun _ => False) w4 wr)) (fun _ i _ => m.L.length - (intOf i).toNat)
  case atStart => exact ⟨0, none, 0, Nat.zero_le _, rfl, rfl, ⟨rfl, .inl ⟨rfl, rfl⟩⟩, Keep.refl _ _⟩
  case round =>
    obtain ⟨k, ad, cap, hk, rfl, rfl, HO, HK⟩ := hrel
    have rA := HA4.out.keep HK.out (fun h => h)
    have a0 := rA.cellAt (o := 0) rfl
    have a1 := rA.cellAt (o := 1) rfl
    have a2 := rA.cellAt (o := 2) rfl
    have a3 := rA.cellAt (o := 3) rfl
    have a4 := rA.cellAt (o := 4) rfl
    by_cases hlt : k < m.L.length
    · have hk0 : (0 : Int) ≤ (k : Int) := by omega
      have hk1 : (k : Int) < (m.L.length : Int) := by omega
      obtain ⟨g, cap', hv, hg, x0, x1, x2⟩ := rrow_cells ((K4.out.trans HK.out).ownsRow H.out.l (fun _ _ h => h)) k hlt
      injection hv with hv1 hv2 hv3
      subst hv1 hv3
      have HFS := hid (filt_succ m.L (fun x => !rcut (m.cs ++ [(a, b)]) x.fr x.tt) k hlt)
      have hfk := filt_le (m.L.take k) (fun x => !rcut (m.cs ++ [(a, b)]) x.fr x.tt)
      rw [List.length_take] at hfk
      have IX := hid (fun W hW => IC.out m.L[k] W hW)
      generalize m.L[k] = x at *
      obtain ⟨fr, tt, s⟩ := x
      simp only at *
      generalize (m.L.take k).filter (fun x => !rcut (m.cs ++ [(a, b)]) x.fr x.tt) = FL at *
      generalize hFN : (m.L.take (k + 1)).filter (fun x => !rcut (m.cs ++ [(a, b)]) x.fr x.tt) = FN at *
      have SK : Hid (∀ w', Keep (fun _ => False) wr w' → (w'.cell? ⟨w.heap.size, 0, none⟩ = some (.slice (some ⟨g, 0, none⟩) m.L.length c1) ∧ w'.cell? ⟨w.heap.size, 1, none⟩ = some (.slice ad4 (m.cs.length + 1) cap4) ∧ w'.cell? ⟨w.heap.size, 2, none⟩ = some (.int .i64 m.se) ∧ w'.cell? ⟨w.heap.size, 3, none⟩ = some (.int .i64 m.ta) ∧ w'.cell? ⟨w.heap.size, 4, none⟩ = some (.int .i64 m.lo) ∧ w'.cell? ⟨g, k * 3, none⟩ = some (.int .i64 fr) ∧ w'.cell? ⟨g, k * 3 + 1, none⟩ = some (.int .i64 tt)) ∧ w'.cell? ⟨g, k * 3 + 2, none⟩ = some (.string s)) := fun w' hw => by
        have r1 := rA.keep hw (fun h => h)
        exact ⟨⟨r1.cellAt rfl, r1.cellAt rfl, r1.cellAt rfl, r1.cellAt rfl, r1.cellAt rfl, (hw.cell hg (fun h => h)).trans x0, (hw.cell hg (fun h => h)).trans x1⟩, (hw.cell hg (fun h => h)).trans x2⟩
      have S0 := hid (SK.out wr.drew (keep_drew _ _)).1
      have IY : Hid (∀ W, Keep (fun _ => False) wr W → Calls Try.prog 40 #[.agg #[.slice (some ⟨g, 0, none⟩) m.L.length c1, .slice ad4 (m.cs.length + 1) cap4, .int .i64 m.se, .int .i64 m.ta, .int .i64 m.lo], .int .i64 fr, .int .i64 tt] W fun e w' => e = .returned (.bool (rcut (m.cs ++ [(a, b)]) fr tt)) ∧ Hid (Keep (fun _ => False) wr w') ∧ (w'.cell? ⟨w.heap.size, 0, none⟩ = some (.slice (some ⟨g, 0, none⟩) m.L.length c1) ∧ w'.cell? ⟨w.heap.size, 1, none⟩ = some (.slice ad4 (m.cs.length + 1) cap4) ∧ w'.cell? ⟨w.heap.size, 2, none⟩ = some (.int .i64 m.se) ∧ w'.cell? ⟨w.heap.size, 3, none⟩ = some (.int .i64 m.ta) ∧ w'.cell? ⟨w.heap.size, 4, none⟩ = some (.int .i64 m.lo) ∧ w'.cell? ⟨g, k * 3, none⟩ = some (.int .i64 fr) ∧ w'.cell? ⟨g, k * 3 + 1, none⟩ = some (.int .i64 tt)) ∧ w'.cell? ⟨g, k * 3 + 2, none⟩ = some (.string s)) := fun W hW => (IX.out W (HK.out.trans hW)).mono fun e w' ⟨he, hk'⟩ => ⟨he, hW.trans hk', SK.out w' (hW.trans hk')⟩
      have C0 := hid (IY.out wr.drew (keep_drew _ _))
      have C1 := hid (IY.out wr (Keep.refl _ _))
      generalize hrc : rcut (m.cs ++ [(a, b)]) fr tt = rc at *
      clear SK IX IY IC HA4 HZ4 H K4 RF rA HRL
      go_wp2
      go_region_held3 (fun w' => w'.cell? ⟨w.heap.size, 0, none⟩ = some (.slice (some ⟨g, 0, none⟩) m.L.length c1) ∧ w'.cell? ⟨w.heap.size, 1, none⟩ = some (.slice ad4 (m.cs.length + 1) cap4) ∧ w'.cell? ⟨w.heap.size, 2, none⟩ = some (.int .i64 m.se) ∧ w'.cell? ⟨w.heap.size, 3, none⟩ = some (.int .i64 m.ta) ∧ w'.cell? ⟨w.heap.size, 4, none⟩ = some (.int .i64 m.lo) ∧ w'.cell? ⟨g, k * 3, none⟩ = some (.int .i64 fr) ∧ w'.cell? ⟨g, k * 3 + 1, none⟩ = some (.int .i64 tt)) (first | (refine ⟨?_, ?_, ?_, ?_, ?_, ?_, ?_⟩ <;> with_reducible assumption) | with_reducible (exact S0.out)) ((go_at_call 40; (first | with_reducible (refine C0.out.mono ?_) | with_reducible (refine C1.out.mono ?_)); rintro e w5 ⟨rfl, hk5, ⟨e0, e1, e2, e3, e4, e5, e6⟩, e7⟩))

      all_goals
        have HK5 := hid (HK.out.trans hk5.out)
        have HO5 := hid (hk5.out.ownsRow HO.out (fun _ _ h => h))
        cases rc with
        | true =>
          have HE : Hid (FN = FL) := by show _ = _; rw [HFS.out]; simp [hrc]
          clear HFS hrc S0 C0 C1 HO HK hk5 x0 x1 x2
          go_wp2
          exact ⟨⟨k + 1, ad, cap, by omega, by rw [hFN, HE.out], by go_num, by rw [hFN, HE.out]; exact HO5, HK5⟩, by simp [intOf]; omega⟩
        | false =>
          have HE : Hid (FN = FL ++ [⟨fr, tt, s⟩]) := by show _ = _; rw [HFS.out]; simp [hrc]
          have HO2 := hid ((keep_alloc (fun _ => False) w5 (Obj.cells #[.int .i64 fr, .int .i64 tt, .string s] 58)).ownsRow HO5.out (fun _ _ h => h))
          have HS2 : Hid (w4.heap.size ≤ (w5.alloc (Obj.cells #[.int .i64 fr, .int .i64 tt, .string s] 58)).heap.size) := by show _ ≤ _; have := HK5.out.size; simp; omega
          have HG2 : Hid (GSrc (w5.alloc (Obj.cells #[.int .i64 fr, .int .i64 tt, .string s] 58)) (.slice (some ⟨w5.heap.size, 0, none⟩) 1 1) 1 (pks [⟨fr, tt, s⟩])) := gsrc_block (heap_alloc_new _ _)
          have OX := hid (pks_one [⟨fr, tt, s⟩])
          have B3 : Hid (FL.length + 1 ≤ 70368744177) := by show _ ≤ _; omega
          have B4 : Hid ((FL.length + 1) * 32 ≤ 140737488355328) := by show _ ≤ _; omega
          have HKA := hid (HK5.out.trans (keep_alloc (fun _ => False) w5 (Obj.cells #[.int .i64 fr, .int .i64 tt, .string s] 58)))
          clear HFS hrc S0 C0 C1 HO HK hk5 x0 x1 x2
          go_wp2_with (at_builtin; refine wpl_gapp rfl _ _ ElRPk rfl w4.heap.size (.slice ad FL.length cap) (.slice (some ⟨w5.heap.size, 0, none⟩) 1 1) (pks FL) (pks [⟨fr, tt, s⟩]) FL.length 1 (FL.length + 1) rfl rfl rfl HO2.out HS2.out HG2.out rfl OX.out B3.out B4.out ?_; intro ad' cap' w' ho' hk')
          have HLE : (FL ++ [(⟨fr, tt, s⟩ : Pk)]).length = FL.length + 1 := by simp
          refine ⟨⟨k + 1, ad', cap', by omega, by rw [hFN, HE.out, HLE], by go_num, ?_, HKA.out.then hk' (fun j hj e => by have := ownsRow_ge HO2.out e; omega)⟩, by simp [intOf]; omega⟩
          rw [hFN, HE.out, HLE, pks_app]
          exact ho'
    · have hk9 : k = m.L.length := by omega
      subst hk9
      have hdl : decide ((m.L.length : Int) < (m.L.length : Int)) = false := decide_eq_false (by omega)
      rw [List.take_length] at HO
      have rZ := HZ4.out.keep HK.out (fun h => h)
      simp only [List.take_length]
      generalize hF : m.L.filter (fun x => !rcut (m.cs ++ [(a, b)]) x.fr x.tt) = F at *
      have HFE := hid hF
      clear hF
      have HCS : Hid (((m.L.length - F.length : Nat) : Int) = (m.L.length : Int) - (F.length : Int)) := by show _ = _; omega
      have hw1 : wrap64 ((m.L.length : Int) - (F.length : Int)) = (m.L.length : Int) - (F.length : Int) := IntWalk.wrap64_in _ (by omega)
      have hw2 : wrap64 ((m.lo : Int) + ((m.L.length : Int) - (F.length : Int))) = (m.lo : Int) + ((m.L.length : Int) - (F.length : Int)) := IntWalk.wrap64_in _ (by omega)
      have kB : Keep (· = w.heap.size) wr ((wr.setCell ⟨w.heap.size, 0, none⟩ (.slice ad F.length cap)).setCell ⟨w.heap.size, 4, none⟩ (.int .i64 ((m.lo : Int) + ((m.L.length : Int) - (F.length : Int))))) := (keep_setCell _ _ _ _).trans (keep_setCell _ _ _ _)
      have HF := hid (five (v0 := .slice ad F.length cap) (v1 := .slice ad4 (m.cs.length + 1) cap4) (v2 := .int .i64 m.se) (v3 := .int .i64 m.ta) (v4 := .int .i64 ((m.lo : Int) + ((m.L.length : Int) - (F.length : Int)))) (rZ.keep kB (fun e => by omega)))
      have HKB := hid kB
      have f0 := rA.frozen (o := 0)
      have f1 := rA.frozen (o := 1)
      have f2 := rA.frozen (o := 2)
      have f3 := rA.frozen (o := 3)
      have f4 := rA.frozen (o := 4)
      have z0 := rZ.cellAt (o := 0) rfl
      have z1 := rZ.cellAt (o := 1) rfl
      have z2 := rZ.cellAt (o := 2) rfl
      have z3 := rZ.cellAt (o := 3) rfl
      have z4 := rZ.cellAt (o := 4) rfl
      have g0 := rZ.frozen (o := 0)
      have g1 := rZ.frozen (o := 1)
      have g2 := rZ.frozen (o := 2)
      have g3 := rZ.frozen (o := 3)
      have g4 := rZ.frozen (o := 4)
      clear kB rA rZ HA4 HZ4 IC
      go_wp2
      refine bodyPost_ret (v := .tuple #[.agg #[.slice ad F.length cap, .slice ad4 (m.cs.length + 1) cap4, .int .i64 m.se, .int .i64 m.ta, .int .i64 ((m.lo : Int) + ((m.L.length : Int) - (F.length : Int)))], .int .i64 ((m.L.length : Int) - (F.length : Int))]) (npk_cell_tmp (p := 6) (u := 7) rfl _ _ (w.heap.size + 1) _ _ rfl rfl (run_loadVar_row _ _ _ _ _ _ _ HF.out.1 Try.underlying28 rfl (by kernel_rfl))) rfl ?_
      have k5 : Keep (fun j => w4.heap.size ≤ j ∨ j = w.heap.size ∨ j = w.heap.size + 1) w4 _ := ((HK.out.mono (fun _ _ h => h.elim)).then (HKB.out.mono (fun j _ e => .inr (.inl e))) (fun j hj e => e)).then (HF.out.2.mono (fun j _ e => .inr (.inr e))) (fun j hj e => e)
      have hzl := HSZ.out
      have kk : Keep (fun _ => False) w _ := ((K4.out.trans HK.out).then HKB.out (fun j hj e => by omega)).then HF.out.2 (fun j hj e => by omega)
      have HC9 : (((m.lo + (m.L.length - F.length) : Nat)) : Int) = (m.lo : Int) + ((m.L.length : Int) - (F.length : Int)) := by omega
      refine ⟨.slice ad F.length cap, .slice ad4 (m.cs.length + 1) cap4, ?_, ?_, kk⟩
      · rw [HRL.out, HFE.out]
        show _ = Ending.returned (.tuple #[.agg #[.slice ad F.length cap, .slice ad4 (m.cs.length + 1) cap4, .int .i64 m.se, .int .i64 m.ta, .int .i64 ((m.lo + (m.L.length - F.length) : Nat) : Int)], .int .i64 ((m.L.length - F.length : Nat) : Int)])
        rw [HC9, HCS.out]
      · rw [HRL.out]
        refine ⟨?_, ?_, by show F.length ≤ _; omega, RF.out.cl, H.out.se, H.out.ta, by show m.lo + _ ≤ _; omega⟩
        · exact HF.out.2.ownsRow (HKB.out.ownsRow (ownsRow_base HO.out (Nat.zero_le _)) (fun g e e2 => by have := ownsRow_ge HO.out e; omega)) (fun g e e2 => by have := ownsRow_ge HO.out e; omega)
        · exact HF.out.2.ownsRow (HKB.out.ownsRow (HK.out.ownsRow RF.out.c (fun _ _ h => h)) (fun g e e2 => HCB.out.1 (e2 ▸ e))) (fun g e e2 => HCB.out.2 (e2 ▸ e))
end Go.Proofs.Ytfcchmjofejkhaa
