/- The law's step on a net and on the reference's: Take, Heal, At. -/
import Derived.Test.YtfcchmjofejkhaaNOneA
import Derived.BigRegion
namespace Go.Proofs.Ytfcchmjofejkhaa
open Go.RowKit Go.Maps
set_option linter.unusedVariables false
set_option linter.unusedSimpArgs false

theorem oth_keep {w w' : World} {j : Nat} (h : Oth w j) (k : Keep (fun _ => False) w w') : Oth w' j := by
  obtain ⟨cur, t, hb, t1, t2⟩ := h
  exact ⟨cur, t, (k.block j (Array.getElem?_eq_some_iff.1 hb).1 (fun h => h)).trans hb, t1, t2⟩
/-- what the step leaves as it was -/
theorem keep_oth {A : Nat → Prop} {w w2 w5 : World} (k1 : Keep (fun _ => False) w w2) (k2 : Keep (fun j => ¬ (A j ∨ Oth w2 j)) w2 w5) : Keep (fun j => ¬ A j ∧ ¬ Oth w j) w w5 :=
  (k1.mono (fun _ _ h => h.elim)).then k2 (fun j hj hn => ⟨fun h => hn (.inl h), fun ho => hn (.inr (oth_keep ho k1))⟩)
theorem Keep.drewR {S : Nat → Prop} {a b : World} (h : Keep S a b) : Keep S a b.drew := h.trans (keep_drew _ _)
set_option maxRecDepth 100000 in
set_option maxHeartbeats 4000000 in
theorem one5_any (w0 : World) (A : Nat → Prop) (p : Nat) (n n' : Net) (lv cv : Value) (m m' : RNet) (kd fr tt an am : Int) (s : ByteArray) (w : World) (hS : NSt w0 A p n w) (hR : RfIs w lv cv m)
    (hkd : kd = 5) (PC : ∀ P1 W, NetIs W P1 p n → Calls Try.prog 19 #[.pointer (some ⟨p, 0, none⟩)] W fun e w' => e = .returned (.tuple #[]) ∧ NLeft W P1 p n' w') :
    Calls Try.prog 11 #[.pointer (some ⟨p, 0, none⟩), rmV lv cv m, .agg #[.int .i64 kd, .int .i64 fr, .int .i64 tt, .string s, .int .i64 an, .int .i64 am]] w fun e w' => ∃ lv' cv', e = .returned (.tuple #[rmV lv' cv' { m with cs := [] }, .bool true]) ∧ RfIs w' lv' cv' { m with cs := [] } ∧ NSt w0 A p n' w' ∧ Keep (fun j => ¬ A j ∧ ¬ Oth w j) w w' := by
  obtain ⟨ad1, c1, rfl⟩ := row_form hR.l
  obtain ⟨ad2, c2, rfl⟩ := row_form hR.c
  have HS := hid hS
  have hw0 := hS.size
  have HR0 := hid hR
  unfold rmV at *
  simp only at *
  clear hR hS
  subst hkd
  have K0 : Hid (Keep (fun _ => False) w (((w.alloc (.cells #[.slice ad1 m.L.length c1, .slice ad2 m.cs.length c2, .int .i64 m.se, .int .i64 m.ta, .int .i64 m.lo] 28)).alloc (.cells #[.int .i64 5, .int .i64 fr, .int .i64 tt, .string s, .int .i64 an, .int .i64 am] 35)).alloc (.cells #[.slice none 0 0, .slice none 0 0, .int .i64 0, .int .i64 0, .int .i64 0] 28))) := ((keep_alloc _ _ _).trans (keep_alloc _ _ _)).trans (keep_alloc _ _ _)
  have HB := hid (((row1 w [.slice ad1 m.L.length c1, .slice ad2 m.cs.length c2, .int .i64 m.se, .int .i64 m.ta, .int .i64 m.lo] 28).keep (keep_alloc (fun _ => False) _ (.cells #[.int .i64 5, .int .i64 fr, .int .i64 tt, .string s, .int .i64 an, .int .i64 am] 35)) (fun h => h)).keep (keep_alloc (fun _ => False) _ (.cells #[.slice none 0 0, .slice none 0 0, .int .i64 0, .int .i64 0, .int .i64 0] 28)) (fun h => h))
  have HA := hid ((row2 w (.cells #[.slice ad1 m.L.length c1, .slice ad2 m.cs.length c2, .int .i64 m.se, .int .i64 m.ta, .int .i64 m.lo] 28) [.int .i64 5, .int .i64 fr, .int .i64 tt, .string s, .int .i64 an, .int .i64 am] 35).keep (keep_alloc (fun _ => False) _ (.cells #[.slice none 0 0, .slice none 0 0, .int .i64 0, .int .i64 0, .int .i64 0] 28)) (fun h => h))
  have HZ := hid (row3 w (.cells #[.slice ad1 m.L.length c1, .slice ad2 m.cs.length c2, .int .i64 m.se, .int .i64 m.ta, .int .i64 m.lo] 28) (.cells #[.int .i64 5, .int .i64 fr, .int .i64 tt, .string s, .int .i64 an, .int .i64 am] 35) [.slice none 0 0, .slice none 0 0, .int .i64 0, .int .i64 0, .int .i64 0] 28)
  have HC := hid (stepO (HS.out.keep K0.out) (fun P1 h1 => PC P1 _ h1))
  go_enter Try.func11, Try.ntmps11
  go_wp2_with fail
  refine HC.out.mono ?_
  rintro e w1 ⟨rfl, h1, k1⟩
  have rB := HB.out.keep k1 (fun hn => hn (.inr (Oth.row HB.out (by decide) (by decide))))
  have rZ := HZ.out.keep k1 (fun hn => hn (.inr (Oth.row HZ.out (by decide) (by decide))))
  have RF1 := hid ((HR0.out.keep K0.out).oth k1)
  have kB := keep_setCell w1 w.heap.size 1 (.slice none 0 0)
  have rB2 := rB.set 1 (.slice none 0 0)
  have hzlt := rZ.lt
  have b0 := rB.cellAt (o := 0) rfl
  have b1 := rB.cellAt (o := 1) rfl
  have b2 := rB.cellAt (o := 2) rfl
  have b3 := rB.cellAt (o := 3) rfl
  have b4 := rB.cellAt (o := 4) rfl
  have f0 := rB.frozen (o := 0)
  have f1 := rB.frozen (o := 1)
  have f2 := rB.frozen (o := 2)
  have f3 := rB.frozen (o := 3)
  have f4 := rB.frozen (o := 4)
  have z0 := rZ.cellAt (o := 0) rfl
  have z1 := rZ.cellAt (o := 1) rfl
  have z2 := rZ.cellAt (o := 2) rfl
  have z3 := rZ.cellAt (o := 3) rfl
  have z4 := rZ.cellAt (o := 4) rfl
  have g0 := rZ.frozen (o := 0)
  have g1 := rZ.frozen (o := 1)
  have g2 := rZ.frozen (o := 2)
  have g3 := rZ.frozen (o := 3)
  have g4 := rZ.frozen (o := 4)
  have HF := hid (five (v0 := .slice ad1 m.L.length c1) (v1 := .slice none 0 0) (v2 := .int .i64 m.se) (v3 := .int .i64 m.ta) (v4 := .int .i64 m.lo) (rZ.keep kB (fun e => by omega)))
  have HNS := hid ((h1.put kB (Oth.row rB (by decide) (by decide)) (by omega)).put HF.out.2 (Oth.row (rZ.keep kB (fun e => by omega)) (by decide) (by decide)) (by omega))
  have RF2 := ((RF1.out.put kB ⟨_, rB⟩).put HF.out.2 ⟨_, rZ.keep kB (fun e => by omega)⟩)
  have HRF : Hid (RfIs _ (.slice ad1 m.L.length c1) (.slice none 0 0) { m with cs := [] }) := ⟨RF2.l, ⟨rfl, .inl ⟨rfl, rfl⟩⟩, RF2.ll, Nat.zero_le _, RF2.se, RF2.ta, RF2.lo⟩
  have HKK := hid (((keep_oth K0.out k1).then kB (fun j hj e => by omega)).then HF.out.2 (fun j hj e => by omega))
  clear rB rZ RF1 RF2 kB rB2 h1 k1 HC PC HS HR0 K0 HB HA HZ hzlt
  go_wp2
  refine bodyPost_ret (v := .tuple #[.agg #[.slice ad1 m.L.length c1, .slice none 0 0, .int .i64 m.se, .int .i64 m.ta, .int .i64 m.lo], .bool true]) (npk_cell_tmp (p := 6) (u := 7) rfl _ _ (w.heap.size + 1 + 1) _ _ rfl rfl (run_loadVar_row _ _ _ _ _ _ _ HF.out.1 Try.underlying28 rfl (by kernel_rfl))) rfl ⟨_, _, rfl, HRF.out, HNS.out, HKK.out⟩
set_option maxRecDepth 100000 in
set_option maxHeartbeats 4000000 in
theorem one1_any (w0 : World) (A : Nat → Prop) (p : Nat) (n n' : Net) (lv cv : Value) (m m' : RNet) (kd fr tt an am : Int) (s : ByteArray) (w : World) (hS : NSt w0 A p n w) (hR : RfIs w lv cv m)
    (hkd : kd = 1) (xf xt : Int) (xs : ByteArray) (b : Bool) (RC : ∀ W, Keep (fun _ => False) w W → Calls Try.prog 25 #[rmV lv cv m, .int .i64 an] W fun e w' => ∃ lv' cv', e = .returned (.tuple #[rmV lv' cv' m', pkV ⟨xf, xt, xs⟩, .bool b]) ∧ RfIs w' lv' cv' m' ∧ Keep (fun _ => False) W w') (PC : ∀ P1 W, NetIs W P1 p n → Calls Try.prog 16 #[.pointer (some ⟨p, 0, none⟩), .int .i64 an] W fun e w' => e = .returned (.tuple #[pkV ⟨xf, xt, xs⟩, .bool b]) ∧ NLeft W P1 p n' w') :
    Calls Try.prog 11 #[.pointer (some ⟨p, 0, none⟩), rmV lv cv m, .agg #[.int .i64 kd, .int .i64 fr, .int .i64 tt, .string s, .int .i64 an, .int .i64 am]] w fun e w' => ∃ lv' cv', e = .returned (.tuple #[rmV lv' cv' m', .bool true]) ∧ RfIs w' lv' cv' m' ∧ NSt w0 A p n' w' ∧ Keep (fun j => ¬ A j ∧ ¬ Oth w j) w w' := by
  obtain ⟨ad1, c1, rfl⟩ := row_form hR.l
  obtain ⟨ad2, c2, rfl⟩ := row_form hR.c
  have HS := hid hS
  have hw0 := hS.size
  have HR0 := hid hR
  unfold rmV at *
  simp only at *
  clear hR hS
  subst hkd
  have K0 : Hid (Keep (fun _ => False) w (((w.alloc (.cells #[.slice ad1 m.L.length c1, .slice ad2 m.cs.length c2, .int .i64 m.se, .int .i64 m.ta, .int .i64 m.lo] 28)).alloc (.cells #[.int .i64 1, .int .i64 fr, .int .i64 tt, .string s, .int .i64 an, .int .i64 am] 35)).alloc (.cells #[.slice none 0 0, .slice none 0 0, .int .i64 0, .int .i64 0, .int .i64 0] 28))) := ((keep_alloc _ _ _).trans (keep_alloc _ _ _)).trans (keep_alloc _ _ _)
  have HB := hid (((row1 w [.slice ad1 m.L.length c1, .slice ad2 m.cs.length c2, .int .i64 m.se, .int .i64 m.ta, .int .i64 m.lo] 28).keep (keep_alloc (fun _ => False) _ (.cells #[.int .i64 1, .int .i64 fr, .int .i64 tt, .string s, .int .i64 an, .int .i64 am] 35)) (fun h => h)).keep (keep_alloc (fun _ => False) _ (.cells #[.slice none 0 0, .slice none 0 0, .int .i64 0, .int .i64 0, .int .i64 0] 28)) (fun h => h))
  have HA := hid ((row2 w (.cells #[.slice ad1 m.L.length c1, .slice ad2 m.cs.length c2, .int .i64 m.se, .int .i64 m.ta, .int .i64 m.lo] 28) [.int .i64 1, .int .i64 fr, .int .i64 tt, .string s, .int .i64 an, .int .i64 am] 35).keep (keep_alloc (fun _ => False) _ (.cells #[.slice none 0 0, .slice none 0 0, .int .i64 0, .int .i64 0, .int .i64 0] 28)) (fun h => h))
  have HZ := hid (row3 w (.cells #[.slice ad1 m.L.length c1, .slice ad2 m.cs.length c2, .int .i64 m.se, .int .i64 m.ta, .int .i64 m.lo] 28) (.cells #[.int .i64 1, .int .i64 fr, .int .i64 tt, .string s, .int .i64 an, .int .i64 am] 35) [.slice none 0 0, .slice none 0 0, .int .i64 0, .int .i64 0, .int .i64 0] 28)
  unfold pkV at *
  simp only at *
  have HRC := hid RC
  clear RC
  go_enter Try.func11, Try.ntmps11
  go_wp2_with fail
  refine (HRC.out _ K0.out).mono ?_
  rintro e w1 ⟨lv', cv', rfl, hR1, k1⟩
  obtain ⟨ad3, c3, rfl⟩ := row_form hR1.l
  obtain ⟨ad4, c4, rfl⟩ := row_form hR1.c
  have kA := k1.trans ((keep_alloc (fun _ => False) w1 (.cells #[.slice ad3 m'.L.length c3, .slice ad4 m'.cs.length c4, .int .i64 m'.se, .int .i64 m'.ta, .int .i64 m'.lo] 28)).trans (keep_alloc (fun _ => False) _ (.cells #[.int .i64 xf, .int .i64 xt, .string xs] 58)))
  have HZ1 := hid (HZ.out.keep kA (fun h => h))
  have HA1 := hid (HA.out.keep kA (fun h => h))
  have HN1 := hid ((row1 w1 [.slice ad3 m'.L.length c3, .slice ad4 m'.cs.length c4, .int .i64 m'.se, .int .i64 m'.ta, .int .i64 m'.lo] 28).keep (keep_alloc (fun _ => False) _ (.cells #[.int .i64 xf, .int .i64 xt, .string xs] 58)) (fun h => h))
  have HP1 := hid (row2 w1 (.cells #[.slice ad3 m'.L.length c3, .slice ad4 m'.cs.length c4, .int .i64 m'.se, .int .i64 m'.ta, .int .i64 m'.lo] 28) [.int .i64 xf, .int .i64 xt, .string xs] 58)
  have hc1 : w.heap.size + 1 + 1 < w1.heap.size := Nat.lt_of_lt_of_le HZ.out.lt k1.size
  have HC1 := hid hc1
  have K1 := hid (K0.out.trans kA)
  have HR1 := hid (hR1.keep ((keep_alloc (fun _ => False) w1 (.cells #[.slice ad3 m'.L.length c3, .slice ad4 m'.cs.length c4, .int .i64 m'.se, .int .i64 m'.ta, .int .i64 m'.lo] 28)).trans (keep_alloc (fun _ => False) _ (.cells #[.int .i64 xf, .int .i64 xt, .string xs] 58))))
  have HC := hid (stepO (HS.out.keep K1.out) (fun P1 h1 => PC P1 _ h1))
  have ta := HA1.out.cellAt (o := 4) rfl
  clear hR1 k1 kA HRC K0 HA HZ hc1 HS HB HA1
  go_wp2_with fail
  refine HC.out.mono ?_
  rintro e w3 ⟨rfl, h3, k3⟩
  clear ta
  have ka := keep_alloc (fun _ => False) w3 (.cells #[.int .i64 xf, .int .i64 xt, .string xs] 33)
  have RN := hid ((HN1.out.keep k3 (fun hn => hn (.inr (Oth.row HN1.out (by decide) (by decide))))).keep ka (fun h => h))
  have RP := hid ((HP1.out.keep k3 (fun hn => hn (.inr (Oth.row HP1.out (by decide) (by decide))))).keep ka (fun h => h))
  have RZ := hid ((HZ1.out.keep k3 (fun hn => hn (.inr (Oth.row HZ1.out (by decide) (by decide))))).keep ka (fun h => h))
  have RQ := hid (row1 w3 [.int .i64 xf, .int .i64 xt, .string xs] 33)
  have RF3 := hid ((HR1.out.oth k3).keep ka)
  have HNS3 := hid (h3.keep ka)
  have HK3 := hid ((keep_oth K1.out k3).trans (ka.mono (fun _ _ h => h.elim)))
  have hs3 : w1.heap.size + 1 < w3.heap.size := (HP1.out.keep k3 (fun hn => hn (.inr (Oth.row HP1.out (by decide) (by decide))))).lt
  have HS3 := hid hs3
  clear h3 k3 ka HC HN1 HP1 HZ1 HR1 K1 PC hs3
  go_wp2
  generalize w3.alloc (.cells #[.int .i64 xf, .int .i64 xt, .string xs] 33) = w4 at *
  have hc1 := HC1.out
  have hs3 := HS3.out
  have SK : Hid (∀ w', RowIs w' w1.heap.size [.slice ad3 m'.L.length c3, .slice ad4 m'.cs.length c4, .int .i64 m'.se, .int .i64 m'.ta, .int .i64 m'.lo] 28 → RowIs w' (w3.heap.size) [.int .i64 xf, .int .i64 xt, .string xs] 33 → RowIs w' (w1.heap.size + 1) [.int .i64 xf, .int .i64 xt, .string xs] 58 → (w'.cell? ⟨w1.heap.size, 0, none⟩ = some (.slice ad3 m'.L.length c3) ∧ w'.cell? ⟨w1.heap.size, 1, none⟩ = some (.slice ad4 m'.cs.length c4) ∧ w'.cell? ⟨w1.heap.size, 2, none⟩ = some (.int .i64 m'.se) ∧ w'.cell? ⟨w1.heap.size, 3, none⟩ = some (.int .i64 m'.ta) ∧ w'.cell? ⟨w1.heap.size, 4, none⟩ = some (.int .i64 m'.lo) ∧ w'.cell? ⟨w3.heap.size, 0, none⟩ = some (.int .i64 xf) ∧ w'.cell? ⟨w3.heap.size, 1, none⟩ = some (.int .i64 xt) ∧ w'.cell? ⟨w3.heap.size, 2, none⟩ = some (.string xs) ∧ w'.cell? ⟨w1.heap.size + 1, 0, none⟩ = some (.int .i64 xf) ∧ w'.cell? ⟨w1.heap.size + 1, 1, none⟩ = some (.int .i64 xt) ∧ w'.cell? ⟨w1.heap.size + 1, 2, none⟩ = some (.string xs))) := fun w' r1 r2 r3 => ⟨r1.cellAt rfl, r1.cellAt rfl, r1.cellAt rfl, r1.cellAt rfl, r1.cellAt rfl, r2.cellAt rfl, r2.cellAt rfl, r2.cellAt rfl, r3.cellAt rfl, r3.cellAt rfl, r3.cellAt rfl⟩
  have S0 := hid (SK.out w4 (RN.out) (RQ.out) (RP.out))
  have SD := hid (SK.out w4.drew (RN.out.keep (keep_drew (fun _ => False) _) (fun h => h)) (RQ.out.keep (keep_drew (fun _ => False) _) (fun h => h)) (RP.out.keep (keep_drew (fun _ => False) _) (fun h => h)))
  have HF := hid (five (v0 := .slice ad3 m'.L.length c3) (v1 := .slice ad4 m'.cs.length c4) (v2 := .int .i64 m'.se) (v3 := .int .i64 m'.ta) (v4 := .int .i64 m'.lo) RZ.out)
  have S5 := hid (SK.out (((((w4.setCell ⟨w.heap.size + 1 + 1, 0, none⟩ (.slice ad3 m'.L.length c3)).setCell ⟨w.heap.size + 1 + 1, 1, none⟩ (.slice ad4 m'.cs.length c4)).setCell ⟨w.heap.size + 1 + 1, 2, none⟩ (.int .i64 m'.se)).setCell ⟨w.heap.size + 1 + 1, 3, none⟩ (.int .i64 m'.ta)).setCell ⟨w.heap.size + 1 + 1, 4, none⟩ (.int .i64 m'.lo)).drew ((RN.out.keep HF.out.2 (fun e => by omega)).keep (keep_drew (fun _ => False) _) (fun h => h)) ((RQ.out.keep HF.out.2 (fun e => by omega)).keep (keep_drew (fun _ => False) _) (fun h => h)) ((RP.out.keep HF.out.2 (fun e => by omega)).keep (keep_drew (fun _ => False) _) (fun h => h)))
  have n0 := RN.out.cellAt (o := 0) rfl
  have n1 := RN.out.cellAt (o := 1) rfl
  have n2 := RN.out.cellAt (o := 2) rfl
  have n3 := RN.out.cellAt (o := 3) rfl
  have n4 := RN.out.cellAt (o := 4) rfl
  have q0 := RQ.out.cellAt (o := 0) rfl
  have q1 := RQ.out.cellAt (o := 1) rfl
  have q2 := RQ.out.cellAt (o := 2) rfl
  have r0 := RP.out.cellAt (o := 0) rfl
  have r1 := RP.out.cellAt (o := 1) rfl
  have r2 := RP.out.cellAt (o := 2) rfl
  have z0 := RZ.out.cellAt (o := 0) rfl
  have z1 := RZ.out.cellAt (o := 1) rfl
  have z2 := RZ.out.cellAt (o := 2) rfl
  have z3 := RZ.out.cellAt (o := 3) rfl
  have z4 := RZ.out.cellAt (o := 4) rfl
  have g0 := RZ.out.frozen (o := 0)
  have g1 := RZ.out.frozen (o := 1)
  have g2 := RZ.out.frozen (o := 2)
  have g3 := RZ.out.frozen (o := 3)
  have g4 := RZ.out.frozen (o := 4)
  clear SK
  go_region_held3 (fun w' => w'.cell? ⟨w1.heap.size, 0, none⟩ = some (.slice ad3 m'.L.length c3) ∧ w'.cell? ⟨w1.heap.size, 1, none⟩ = some (.slice ad4 m'.cs.length c4) ∧ w'.cell? ⟨w1.heap.size, 2, none⟩ = some (.int .i64 m'.se) ∧ w'.cell? ⟨w1.heap.size, 3, none⟩ = some (.int .i64 m'.ta) ∧ w'.cell? ⟨w1.heap.size, 4, none⟩ = some (.int .i64 m'.lo) ∧ w'.cell? ⟨w3.heap.size, 0, none⟩ = some (.int .i64 xf) ∧ w'.cell? ⟨w3.heap.size, 1, none⟩ = some (.int .i64 xt) ∧ w'.cell? ⟨w3.heap.size, 2, none⟩ = some (.string xs) ∧ w'.cell? ⟨w1.heap.size + 1, 0, none⟩ = some (.int .i64 xf) ∧ w'.cell? ⟨w1.heap.size + 1, 1, none⟩ = some (.int .i64 xt) ∧ w'.cell? ⟨w1.heap.size + 1, 2, none⟩ = some (.string xs)) (first | (refine ⟨?_, ?_, ?_, ?_, ?_, ?_, ?_, ?_, ?_, ?_, ?_⟩ <;> with_reducible assumption) | with_reducible (exact S0.out) | with_reducible (exact SD.out) | with_reducible (exact S5.out)) (fail)
  clear S0 SD S5 n0 n1 n2 n3 n4 q0 q1 q2 r0 r1 r2 z0 z1 z2 z3 z4 g0 g1 g2 g3 g4 RN RQ RP
  have HFD := hid (HF.out.1.keep (keep_drew (fun _ => False) _) (fun h => h))
  have HRF : Hid (RfIs _ (.slice ad3 m'.L.length c3) (.slice ad4 m'.cs.length c4) m') := (RF3.out.put HF.out.2 ⟨_, RZ.out⟩).keep (keep_drew _ _)
  have HNS := hid ((HNS3.out.put HF.out.2 (Oth.row RZ.out (by decide) (by decide)) (by omega)).keep (keep_drew _ _))
  have HKK := hid ((HK3.out.then HF.out.2 (fun j hj e => by omega)).drewR)
  go_wp2
  refine bodyPost_ret (v := .tuple #[.agg #[.slice ad3 m'.L.length c3, .slice ad4 m'.cs.length c4, .int .i64 m'.se, .int .i64 m'.ta, .int .i64 m'.lo], .bool true]) (npk_cell_tmp (p := 6) (u := 7) rfl _ _ (w.heap.size + 1 + 1) _ _ rfl rfl (run_loadVar_row _ _ _ _ _ _ _ HFD.out Try.underlying28 rfl (by kernel_rfl))) rfl ⟨_, _, rfl, HRF.out, HNS.out, HKK.out⟩
theorem stepKF {w0 W : World} {A : Nat → Prop} {p : Nat} {n : Net} {f : FuncId} {args : Array Value} {r : Ending} (h : NSt w0 A p n W) (hc : ∀ P1, NetIs W P1 p n → Calls Try.prog f args W fun e w' => e = r ∧ Keep (fun _ => False) W w') :
    Calls Try.prog f args W fun e w' => e = r ∧ NSt w0 A p n w' ∧ Keep (fun _ => False) W w' := by
  obtain ⟨P, h1, h2, h3, h4⟩ := h
  refine (hc P h1).mono ?_
  rintro e w' ⟨rfl, k⟩
  exact ⟨rfl, NSt.keep ⟨P, h1, h2, h3, h4⟩ k, k⟩
set_option maxRecDepth 100000 in
set_option maxHeartbeats 4000000 in
theorem one7_same (w0 : World) (A : Nat → Prop) (p : Nat) (n n' : Net) (lv cv : Value) (m m' : RNet) (kd fr tt an am : Int) (s : ByteArray) (w : World) (hS : NSt w0 A p n w) (hR : RfIs w lv cv m)
    (hkd : kd ≠ 0 ∧ kd ≠ 1 ∧ kd ≠ 2 ∧ kd ≠ 3 ∧ kd ≠ 4 ∧ kd ≠ 5 ∧ kd ≠ 6) (xf xt : Int) (xs : ByteArray) (b : Bool) (RC : ∀ W, Keep (fun _ => False) w W → Calls Try.prog 30 #[rmV lv cv m, .int .i64 an] W fun e w' => e = .returned (.tuple #[.agg #[.int .i64 xf, .int .i64 xt, .string xs], .bool b]) ∧ Keep (fun _ => False) W w') (PC : ∀ P1 W, NetIs W P1 p n → Calls Try.prog 20 #[.pointer (some ⟨p, 0, none⟩), .int .i64 an] W fun e w' => e = .returned (.tuple #[.agg #[.int .i64 xf, .int .i64 xt, .string xs], .bool b]) ∧ Keep (fun _ => False) W w') :
    Calls Try.prog 11 #[.pointer (some ⟨p, 0, none⟩), rmV lv cv m, .agg #[.int .i64 kd, .int .i64 fr, .int .i64 tt, .string s, .int .i64 an, .int .i64 am]] w fun e w' => ∃ lv' cv', e = .returned (.tuple #[rmV lv' cv' m, .bool true]) ∧ RfIs w' lv' cv' m ∧ NSt w0 A p n w' ∧ Keep (fun j => ¬ A j ∧ ¬ Oth w j) w w' := by
  obtain ⟨ad1, c1, rfl⟩ := row_form hR.l
  obtain ⟨ad2, c2, rfl⟩ := row_form hR.c
  have HS := hid hS
  have hw0 := hS.size
  have HR0 := hid hR
  unfold rmV at *
  simp only at *
  clear hR hS
  have K0 : Hid (Keep (fun _ => False) w (((w.alloc (.cells #[.slice ad1 m.L.length c1, .slice ad2 m.cs.length c2, .int .i64 m.se, .int .i64 m.ta, .int .i64 m.lo] 28)).alloc (.cells #[.int .i64 kd, .int .i64 fr, .int .i64 tt, .string s, .int .i64 an, .int .i64 am] 35)).alloc (.cells #[.slice none 0 0, .slice none 0 0, .int .i64 0, .int .i64 0, .int .i64 0] 28))) := ((keep_alloc _ _ _).trans (keep_alloc _ _ _)).trans (keep_alloc _ _ _)
  have HB := hid (((row1 w [.slice ad1 m.L.length c1, .slice ad2 m.cs.length c2, .int .i64 m.se, .int .i64 m.ta, .int .i64 m.lo] 28).keep (keep_alloc (fun _ => False) _ (.cells #[.int .i64 kd, .int .i64 fr, .int .i64 tt, .string s, .int .i64 an, .int .i64 am] 35)) (fun h => h)).keep (keep_alloc (fun _ => False) _ (.cells #[.slice none 0 0, .slice none 0 0, .int .i64 0, .int .i64 0, .int .i64 0] 28)) (fun h => h))
  have HA := hid ((row2 w (.cells #[.slice ad1 m.L.length c1, .slice ad2 m.cs.length c2, .int .i64 m.se, .int .i64 m.ta, .int .i64 m.lo] 28) [.int .i64 kd, .int .i64 fr, .int .i64 tt, .string s, .int .i64 an, .int .i64 am] 35).keep (keep_alloc (fun _ => False) _ (.cells #[.slice none 0 0, .slice none 0 0, .int .i64 0, .int .i64 0, .int .i64 0] 28)) (fun h => h))
  have HZ := hid (row3 w (.cells #[.slice ad1 m.L.length c1, .slice ad2 m.cs.length c2, .int .i64 m.se, .int .i64 m.ta, .int .i64 m.lo] 28) (.cells #[.int .i64 kd, .int .i64 fr, .int .i64 tt, .string s, .int .i64 an, .int .i64 am] 35) [.slice none 0 0, .slice none 0 0, .int .i64 0, .int .i64 0, .int .i64 0] 28)
  obtain ⟨k0, k1, k2, k3, k4, k5, k6⟩ := hkd
  have j0 : (kd == 0) = false := by simpa using k0
  have j1 : (kd == 1) = false := by simpa using k1
  have j2 : (kd == 2) = false := by simpa using k2
  have j3 : (kd == 3) = false := by simpa using k3
  have j4 : (kd == 4) = false := by simpa using k4
  have j5 : (kd == 5) = false := by simpa using k5
  have j6 : (kd == 6) = false := by simpa using k6
  have HRC := hid RC
  clear RC
  go_enter Try.func11, Try.ntmps11
  go_wp2_with fail
  refine (HRC.out _ K0.out).mono ?_
  rintro e w1 ⟨rfl, kk1⟩
  have kA := kk1.trans (keep_alloc (fun _ => False) w1 (.cells #[.int .i64 xf, .int .i64 xt, .string xs] 58))
  have HZ1 := hid (HZ.out.keep kA (fun h => h))
  have HA1 := hid (HA.out.keep kA (fun h => h))
  have HB1 := hid (HB.out.keep kA (fun h => h))
  have HP1 := hid (row1 w1 [.int .i64 xf, .int .i64 xt, .string xs] 58)
  have hc1 : w.heap.size + 1 + 1 < w1.heap.size := Nat.lt_of_lt_of_le HZ.out.lt kk1.size
  have HC1 := hid hc1
  have K1 := hid (K0.out.trans kA)
  have HC := hid (stepKF (HS.out.keep K1.out) (fun P1 h1 => PC P1 _ h1))
  have ta := HA1.out.cellAt (o := 4) rfl
  clear kk1 kA HRC K0 HA HZ hc1 HS HB HA1
  go_wp2_with fail
  refine HC.out.mono ?_
  rintro e w3 ⟨rfl, h3, kk3⟩
  clear ta
  have ka := kk3.trans (keep_alloc (fun _ => False) w3 (.cells #[.int .i64 xf, .int .i64 xt, .string xs] 33))
  have RN := hid (HB1.out.keep ka (fun h => h))
  have RP := hid (HP1.out.keep ka (fun h => h))
  have RZ := hid (HZ1.out.keep ka (fun h => h))
  have RQ := hid (row1 w3 [.int .i64 xf, .int .i64 xt, .string xs] 33)
  have K3 := hid (K1.out.trans ka)
  have RF3 := hid (HR0.out.keep K3.out)
  have HNS3 := hid (h3.keep (keep_alloc (fun _ => False) w3 (.cells #[.int .i64 xf, .int .i64 xt, .string xs] 33)))
  have HK3 : Hid (Keep (fun j => ¬ A j ∧ ¬ Oth w j) w _) := K3.out.mono (fun _ _ h => h.elim)
  have hs3 : w1.heap.size < w3.heap.size := Nat.lt_of_lt_of_le HP1.out.lt kk3.size
  have HS3 := hid hs3
  clear h3 kk3 ka HC HP1 HZ1 HB1 K1 PC hs3 K3
  go_wp2
  generalize w3.alloc (.cells #[.int .i64 xf, .int .i64 xt, .string xs] 33) = w4 at *
  have hc1 := HC1.out
  have hs3 := HS3.out
  clear k0 k1 k2 k3 k4 k5 k6 j0 j1 j2 j3 j4 j5 j6
  have SK : Hid (∀ w', RowIs w' w.heap.size [.slice ad1 m.L.length c1, .slice ad2 m.cs.length c2, .int .i64 m.se, .int .i64 m.ta, .int .i64 m.lo] 28 → RowIs w' (w3.heap.size) [.int .i64 xf, .int .i64 xt, .string xs] 33 → RowIs w' (w1.heap.size) [.int .i64 xf, .int .i64 xt, .string xs] 58 → (w'.cell? ⟨w.heap.size, 0, none⟩ = some (.slice ad1 m.L.length c1) ∧ w'.cell? ⟨w.heap.size, 1, none⟩ = some (.slice ad2 m.cs.length c2) ∧ w'.cell? ⟨w.heap.size, 2, none⟩ = some (.int .i64 m.se) ∧ w'.cell? ⟨w.heap.size, 3, none⟩ = some (.int .i64 m.ta) ∧ w'.cell? ⟨w.heap.size, 4, none⟩ = some (.int .i64 m.lo) ∧ w'.cell? ⟨w3.heap.size, 0, none⟩ = some (.int .i64 xf) ∧ w'.cell? ⟨w3.heap.size, 1, none⟩ = some (.int .i64 xt) ∧ w'.cell? ⟨w3.heap.size, 2, none⟩ = some (.string xs) ∧ w'.cell? ⟨w1.heap.size, 0, none⟩ = some (.int .i64 xf) ∧ w'.cell? ⟨w1.heap.size, 1, none⟩ = some (.int .i64 xt) ∧ w'.cell? ⟨w1.heap.size, 2, none⟩ = some (.string xs))) := fun w' r1 r2 r3 => ⟨r1.cellAt rfl, r1.cellAt rfl, r1.cellAt rfl, r1.cellAt rfl, r1.cellAt rfl, r2.cellAt rfl, r2.cellAt rfl, r2.cellAt rfl, r3.cellAt rfl, r3.cellAt rfl, r3.cellAt rfl⟩
  have S0 := hid (SK.out w4 (RN.out) (RQ.out) (RP.out))
  have SD := hid (SK.out w4.drew (RN.out.keep (keep_drew (fun _ => False) _) (fun h => h)) (RQ.out.keep (keep_drew (fun _ => False) _) (fun h => h)) (RP.out.keep (keep_drew (fun _ => False) _) (fun h => h)))
  have HF := hid (five (v0 := .slice ad1 m.L.length c1) (v1 := .slice ad2 m.cs.length c2) (v2 := .int .i64 m.se) (v3 := .int .i64 m.ta) (v4 := .int .i64 m.lo) RZ.out)
  have S5 := hid (SK.out (((((w4.setCell ⟨w.heap.size + 1 + 1, 0, none⟩ (.slice ad1 m.L.length c1)).setCell ⟨w.heap.size + 1 + 1, 1, none⟩ (.slice ad2 m.cs.length c2)).setCell ⟨w.heap.size + 1 + 1, 2, none⟩ (.int .i64 m.se)).setCell ⟨w.heap.size + 1 + 1, 3, none⟩ (.int .i64 m.ta)).setCell ⟨w.heap.size + 1 + 1, 4, none⟩ (.int .i64 m.lo)).drew ((RN.out.keep HF.out.2 (fun e => by omega)).keep (keep_drew (fun _ => False) _) (fun h => h)) ((RQ.out.keep HF.out.2 (fun e => by omega)).keep (keep_drew (fun _ => False) _) (fun h => h)) ((RP.out.keep HF.out.2 (fun e => by omega)).keep (keep_drew (fun _ => False) _) (fun h => h)))
  have n0 := RN.out.cellAt (o := 0) rfl
  have n1 := RN.out.cellAt (o := 1) rfl
  have n2 := RN.out.cellAt (o := 2) rfl
  have n3 := RN.out.cellAt (o := 3) rfl
  have n4 := RN.out.cellAt (o := 4) rfl
  have q0 := RQ.out.cellAt (o := 0) rfl
  have q1 := RQ.out.cellAt (o := 1) rfl
  have q2 := RQ.out.cellAt (o := 2) rfl
  have r0 := RP.out.cellAt (o := 0) rfl
  have r1 := RP.out.cellAt (o := 1) rfl
  have r2 := RP.out.cellAt (o := 2) rfl
  have z0 := RZ.out.cellAt (o := 0) rfl
  have z1 := RZ.out.cellAt (o := 1) rfl
  have z2 := RZ.out.cellAt (o := 2) rfl
  have z3 := RZ.out.cellAt (o := 3) rfl
  have z4 := RZ.out.cellAt (o := 4) rfl
  have g0 := RZ.out.frozen (o := 0)
  have g1 := RZ.out.frozen (o := 1)
  have g2 := RZ.out.frozen (o := 2)
  have g3 := RZ.out.frozen (o := 3)
  have g4 := RZ.out.frozen (o := 4)
  clear SK
  go_region_held3 (fun w' => w'.cell? ⟨w.heap.size, 0, none⟩ = some (.slice ad1 m.L.length c1) ∧ w'.cell? ⟨w.heap.size, 1, none⟩ = some (.slice ad2 m.cs.length c2) ∧ w'.cell? ⟨w.heap.size, 2, none⟩ = some (.int .i64 m.se) ∧ w'.cell? ⟨w.heap.size, 3, none⟩ = some (.int .i64 m.ta) ∧ w'.cell? ⟨w.heap.size, 4, none⟩ = some (.int .i64 m.lo) ∧ w'.cell? ⟨w3.heap.size, 0, none⟩ = some (.int .i64 xf) ∧ w'.cell? ⟨w3.heap.size, 1, none⟩ = some (.int .i64 xt) ∧ w'.cell? ⟨w3.heap.size, 2, none⟩ = some (.string xs) ∧ w'.cell? ⟨w1.heap.size, 0, none⟩ = some (.int .i64 xf) ∧ w'.cell? ⟨w1.heap.size, 1, none⟩ = some (.int .i64 xt) ∧ w'.cell? ⟨w1.heap.size, 2, none⟩ = some (.string xs)) (first | (refine ⟨?_, ?_, ?_, ?_, ?_, ?_, ?_, ?_, ?_, ?_, ?_⟩ <;> with_reducible assumption) | with_reducible (exact S0.out) | with_reducible (exact SD.out) | with_reducible (exact S5.out)) (fail)
  clear S0 SD S5 n0 n1 n2 n3 n4 q0 q1 q2 r0 r1 r2 z0 z1 z2 z3 z4 g0 g1 g2 g3 g4 RN RQ RP
  have HFD := hid (HF.out.1.keep (keep_drew (fun _ => False) _) (fun h => h))
  have HRF : Hid (RfIs _ (.slice ad1 m.L.length c1) (.slice ad2 m.cs.length c2) m) := (RF3.out.put HF.out.2 ⟨_, RZ.out⟩).keep (keep_drew _ _)
  have HNS := hid ((HNS3.out.put HF.out.2 (Oth.row RZ.out (by decide) (by decide)) (by omega)).keep (keep_drew _ _))
  have HKK := hid ((HK3.out.then HF.out.2 (fun j hj e => by omega)).drewR)
  go_wp2
  refine bodyPost_ret (v := .tuple #[.agg #[.slice ad1 m.L.length c1, .slice ad2 m.cs.length c2, .int .i64 m.se, .int .i64 m.ta, .int .i64 m.lo], .bool true]) (npk_cell_tmp (p := 6) (u := 7) rfl _ _ (w.heap.size + 1 + 1) _ _ rfl rfl (run_loadVar_row _ _ _ _ _ _ _ HFD.out Try.underlying28 rfl (by kernel_rfl))) rfl ⟨_, _, rfl, HRF.out, HNS.out, HKK.out⟩
set_option maxRecDepth 100000 in
set_option maxHeartbeats 4000000 in
theorem one7_diff (w0 : World) (A : Nat → Prop) (p : Nat) (n n' : Net) (lv cv : Value) (m m' : RNet) (kd fr tt an am : Int) (s : ByteArray) (w : World) (hS : NSt w0 A p n w) (hR : RfIs w lv cv m)
    (hkd : kd ≠ 0 ∧ kd ≠ 1 ∧ kd ≠ 2 ∧ kd ≠ 3 ∧ kd ≠ 4 ∧ kd ≠ 5 ∧ kd ≠ 6) (yf yt : Int) (ys : ByteArray) (RC : ∀ W, Keep (fun _ => False) w W → Calls Try.prog 30 #[rmV lv cv m, .int .i64 an] W fun e w' => e = .returned (.tuple #[.agg #[.int .i64 0, .int .i64 0, .string ⟨#[]⟩], .bool false]) ∧ Keep (fun _ => False) W w') (PC : ∀ P1 W, NetIs W P1 p n → Calls Try.prog 20 #[.pointer (some ⟨p, 0, none⟩), .int .i64 an] W fun e w' => e = .returned (.tuple #[.agg #[.int .i64 yf, .int .i64 yt, .string ys], .bool true]) ∧ Keep (fun _ => False) W w') :
    Calls Try.prog 11 #[.pointer (some ⟨p, 0, none⟩), rmV lv cv m, .agg #[.int .i64 kd, .int .i64 fr, .int .i64 tt, .string s, .int .i64 an, .int .i64 am]] w fun e w' => ∃ lv' cv', e = .returned (.tuple #[rmV lv' cv' m, .bool false]) ∧ RfIs w' lv' cv' m ∧ NSt w0 A p n w' ∧ Keep (fun j => ¬ A j ∧ ¬ Oth w j) w w' := by
  obtain ⟨ad1, c1, rfl⟩ := row_form hR.l
  obtain ⟨ad2, c2, rfl⟩ := row_form hR.c
  have HS := hid hS
  have hw0 := hS.size
  have HR0 := hid hR
  unfold rmV at *
  simp only at *
  clear hR hS
  have K0 : Hid (Keep (fun _ => False) w (((w.alloc (.cells #[.slice ad1 m.L.length c1, .slice ad2 m.cs.length c2, .int .i64 m.se, .int .i64 m.ta, .int .i64 m.lo] 28)).alloc (.cells #[.int .i64 kd, .int .i64 fr, .int .i64 tt, .string s, .int .i64 an, .int .i64 am] 35)).alloc (.cells #[.slice none 0 0, .slice none 0 0, .int .i64 0, .int .i64 0, .int .i64 0] 28))) := ((keep_alloc _ _ _).trans (keep_alloc _ _ _)).trans (keep_alloc _ _ _)
  have HB := hid (((row1 w [.slice ad1 m.L.length c1, .slice ad2 m.cs.length c2, .int .i64 m.se, .int .i64 m.ta, .int .i64 m.lo] 28).keep (keep_alloc (fun _ => False) _ (.cells #[.int .i64 kd, .int .i64 fr, .int .i64 tt, .string s, .int .i64 an, .int .i64 am] 35)) (fun h => h)).keep (keep_alloc (fun _ => False) _ (.cells #[.slice none 0 0, .slice none 0 0, .int .i64 0, .int .i64 0, .int .i64 0] 28)) (fun h => h))
  have HA := hid ((row2 w (.cells #[.slice ad1 m.L.length c1, .slice ad2 m.cs.length c2, .int .i64 m.se, .int .i64 m.ta, .int .i64 m.lo] 28) [.int .i64 kd, .int .i64 fr, .int .i64 tt, .string s, .int .i64 an, .int .i64 am] 35).keep (keep_alloc (fun _ => False) _ (.cells #[.slice none 0 0, .slice none 0 0, .int .i64 0, .int .i64 0, .int .i64 0] 28)) (fun h => h))
  have HZ := hid (row3 w (.cells #[.slice ad1 m.L.length c1, .slice ad2 m.cs.length c2, .int .i64 m.se, .int .i64 m.ta, .int .i64 m.lo] 28) (.cells #[.int .i64 kd, .int .i64 fr, .int .i64 tt, .string s, .int .i64 an, .int .i64 am] 35) [.slice none 0 0, .slice none 0 0, .int .i64 0, .int .i64 0, .int .i64 0] 28)
  obtain ⟨k0, k1, k2, k3, k4, k5, k6⟩ := hkd
  have j0 : (kd == 0) = false := by simpa using k0
  have j1 : (kd == 1) = false := by simpa using k1
  have j2 : (kd == 2) = false := by simpa using k2
  have j3 : (kd == 3) = false := by simpa using k3
  have j4 : (kd == 4) = false := by simpa using k4
  have j5 : (kd == 5) = false := by simpa using k5
  have j6 : (kd == 6) = false := by simpa using k6
  have HRC := hid RC
  clear RC
  go_enter Try.func11, Try.ntmps11
  go_wp2_with fail
  refine (HRC.out _ K0.out).mono ?_
  rintro e w1 ⟨rfl, kk1⟩
  have kA := kk1.trans (keep_alloc (fun _ => False) w1 (.cells #[.int .i64 0, .int .i64 0, .string ⟨#[]⟩] 58))
  have HZ1 := hid (HZ.out.keep kA (fun h => h))
  have HA1 := hid (HA.out.keep kA (fun h => h))
  have HB1 := hid (HB.out.keep kA (fun h => h))
  have HP1 := hid (row1 w1 [.int .i64 0, .int .i64 0, .string ⟨#[]⟩] 58)
  have hc1 : w.heap.size + 1 + 1 < w1.heap.size := Nat.lt_of_lt_of_le HZ.out.lt kk1.size
  have HC1 := hid hc1
  have K1 := hid (K0.out.trans kA)
  have HC := hid (stepKF (HS.out.keep K1.out) (fun P1 h1 => PC P1 _ h1))
  have ta := HA1.out.cellAt (o := 4) rfl
  clear kk1 kA HRC K0 HA HZ hc1 HS HB HA1
  go_wp2_with fail
  refine HC.out.mono ?_
  rintro e w3 ⟨rfl, h3, kk3⟩
  clear ta
  have ka := kk3.trans (keep_alloc (fun _ => False) w3 (.cells #[.int .i64 yf, .int .i64 yt, .string ys] 33))
  have RN := hid (HB1.out.keep ka (fun h => h))
  have RP := hid (HP1.out.keep ka (fun h => h))
  have RZ := hid (HZ1.out.keep ka (fun h => h))
  have RQ := hid (row1 w3 [.int .i64 yf, .int .i64 yt, .string ys] 33)
  have K3 := hid (K1.out.trans ka)
  have RF3 := hid (HR0.out.keep K3.out)
  have HNS3 := hid (h3.keep (keep_alloc (fun _ => False) w3 (.cells #[.int .i64 yf, .int .i64 yt, .string ys] 33)))
  have HK3 : Hid (Keep (fun j => ¬ A j ∧ ¬ Oth w j) w _) := K3.out.mono (fun _ _ h => h.elim)
  have hs3 : w1.heap.size < w3.heap.size := Nat.lt_of_lt_of_le HP1.out.lt kk3.size
  have HS3 := hid hs3
  clear h3 kk3 ka HC HP1 HZ1 HB1 K1 PC hs3 K3
  go_wp2
  generalize w3.alloc (.cells #[.int .i64 yf, .int .i64 yt, .string ys] 33) = w4 at *
  have hc1 := HC1.out
  have hs3 := HS3.out
  clear k0 k1 k2 k3 k4 k5 k6 j0 j1 j2 j3 j4 j5 j6
  have SK : Hid (∀ w', RowIs w' w.heap.size [.slice ad1 m.L.length c1, .slice ad2 m.cs.length c2, .int .i64 m.se, .int .i64 m.ta, .int .i64 m.lo] 28 → RowIs w' (w3.heap.size) [.int .i64 yf, .int .i64 yt, .string ys] 33 → RowIs w' (w1.heap.size) [.int .i64 0, .int .i64 0, .string ⟨#[]⟩] 58 → (w'.cell? ⟨w.heap.size, 0, none⟩ = some (.slice ad1 m.L.length c1) ∧ w'.cell? ⟨w.heap.size, 1, none⟩ = some (.slice ad2 m.cs.length c2) ∧ w'.cell? ⟨w.heap.size, 2, none⟩ = some (.int .i64 m.se) ∧ w'.cell? ⟨w.heap.size, 3, none⟩ = some (.int .i64 m.ta) ∧ w'.cell? ⟨w.heap.size, 4, none⟩ = some (.int .i64 m.lo) ∧ w'.cell? ⟨w3.heap.size, 0, none⟩ = some (.int .i64 yf) ∧ w'.cell? ⟨w3.heap.size, 1, none⟩ = some (.int .i64 yt) ∧ w'.cell? ⟨w3.heap.size, 2, none⟩ = some (.string ys) ∧ w'.cell? ⟨w1.heap.size, 0, none⟩ = some (.int .i64 0) ∧ w'.cell? ⟨w1.heap.size, 1, none⟩ = some (.int .i64 0) ∧ w'.cell? ⟨w1.heap.size, 2, none⟩ = some (.string ⟨#[]⟩))) := fun w' r1 r2 r3 => ⟨r1.cellAt rfl, r1.cellAt rfl, r1.cellAt rfl, r1.cellAt rfl, r1.cellAt rfl, r2.cellAt rfl, r2.cellAt rfl, r2.cellAt rfl, r3.cellAt rfl, r3.cellAt rfl, r3.cellAt rfl⟩
  have S0 := hid (SK.out w4 (RN.out) (RQ.out) (RP.out))
  have SD := hid (SK.out w4.drew (RN.out.keep (keep_drew (fun _ => False) _) (fun h => h)) (RQ.out.keep (keep_drew (fun _ => False) _) (fun h => h)) (RP.out.keep (keep_drew (fun _ => False) _) (fun h => h)))
  have HF := hid (five (v0 := .slice ad1 m.L.length c1) (v1 := .slice ad2 m.cs.length c2) (v2 := .int .i64 m.se) (v3 := .int .i64 m.ta) (v4 := .int .i64 m.lo) RZ.out)
  have S5 := hid (SK.out (((((w4.setCell ⟨w.heap.size + 1 + 1, 0, none⟩ (.slice ad1 m.L.length c1)).setCell ⟨w.heap.size + 1 + 1, 1, none⟩ (.slice ad2 m.cs.length c2)).setCell ⟨w.heap.size + 1 + 1, 2, none⟩ (.int .i64 m.se)).setCell ⟨w.heap.size + 1 + 1, 3, none⟩ (.int .i64 m.ta)).setCell ⟨w.heap.size + 1 + 1, 4, none⟩ (.int .i64 m.lo)).drew ((RN.out.keep HF.out.2 (fun e => by omega)).keep (keep_drew (fun _ => False) _) (fun h => h)) ((RQ.out.keep HF.out.2 (fun e => by omega)).keep (keep_drew (fun _ => False) _) (fun h => h)) ((RP.out.keep HF.out.2 (fun e => by omega)).keep (keep_drew (fun _ => False) _) (fun h => h)))
  have n0 := RN.out.cellAt (o := 0) rfl
  have n1 := RN.out.cellAt (o := 1) rfl
  have n2 := RN.out.cellAt (o := 2) rfl
  have n3 := RN.out.cellAt (o := 3) rfl
  have n4 := RN.out.cellAt (o := 4) rfl
  have q0 := RQ.out.cellAt (o := 0) rfl
  have q1 := RQ.out.cellAt (o := 1) rfl
  have q2 := RQ.out.cellAt (o := 2) rfl
  have r0 := RP.out.cellAt (o := 0) rfl
  have r1 := RP.out.cellAt (o := 1) rfl
  have r2 := RP.out.cellAt (o := 2) rfl
  have z0 := RZ.out.cellAt (o := 0) rfl
  have z1 := RZ.out.cellAt (o := 1) rfl
  have z2 := RZ.out.cellAt (o := 2) rfl
  have z3 := RZ.out.cellAt (o := 3) rfl
  have z4 := RZ.out.cellAt (o := 4) rfl
  have g0 := RZ.out.frozen (o := 0)
  have g1 := RZ.out.frozen (o := 1)
  have g2 := RZ.out.frozen (o := 2)
  have g3 := RZ.out.frozen (o := 3)
  have g4 := RZ.out.frozen (o := 4)
  clear SK
  go_region
  clear S0 SD S5 n0 n1 n2 n3 n4 q0 q1 q2 r0 r1 r2 z0 z1 z2 z3 z4 g0 g1 g2 g3 g4 RN RQ RP
  have HFD := hid (HF.out.1.keep (keep_drew (fun _ => False) _) (fun h => h))
  have HRF : Hid (RfIs _ (.slice ad1 m.L.length c1) (.slice ad2 m.cs.length c2) m) := (RF3.out.put HF.out.2 ⟨_, RZ.out⟩).keep (keep_drew _ _)
  have HNS := hid ((HNS3.out.put HF.out.2 (Oth.row RZ.out (by decide) (by decide)) (by omega)).keep (keep_drew _ _))
  have HKK := hid ((HK3.out.then HF.out.2 (fun j hj e => by omega)).drewR)
  go_wp2
  refine bodyPost_ret (v := .tuple #[.agg #[.slice ad1 m.L.length c1, .slice ad2 m.cs.length c2, .int .i64 m.se, .int .i64 m.ta, .int .i64 m.lo], .bool false]) (npk_cell_tmp (p := 6) (u := 7) rfl _ _ (w.heap.size + 1 + 1) _ _ rfl rfl (run_loadVar_row _ _ _ _ _ _ _ HFD.out Try.underlying28 rfl (by kernel_rfl))) rfl ⟨_, _, rfl, HRF.out, HNS.out, HKK.out⟩
end Go.Proofs.Ytfcchmjofejkhaa
