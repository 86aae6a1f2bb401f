/- The walk of the law WiresPlays. -/
import Derived.Test.YtfcchmjofejkhaaNSays
namespace Go.Proofs.Ytfcchmjofejkhaa
open Go.RowKit Go.Maps
set_option linter.unusedVariables false
set_option linter.unusedSimpArgs false

/-- acts in memory -/
def ActsI (w : World) (v : Value) (l : List A8) : Prop :=
  (∃ ad cap, v = .slice ad 0 cap ∧ l = []) ∨ ∃ b off cap, v = .slice (some ⟨b, off, none⟩) l.length cap ∧ b < w.heap.size ∧ ∀ j (hj : j < l.length) (i : Nat), i < 6 → w.cell? ⟨b, off + j * 6 + i, none⟩ = (a8C l[j])[i]?
theorem ActsI.form {w : World} {v : Value} {l : List A8} (h : ActsI w v l) : ∃ ad cap, v = .slice ad l.length cap ∧ ∀ k (hk : k < l.length), ∃ b off, ad = some ⟨b, off, none⟩ ∧ b < w.heap.size ∧ w.cell? ⟨b, off + k * 6, none⟩ = some (.int .i64 l[k].kind) ∧ w.cell? ⟨b, off + k * 6 + 1, none⟩ = some (.int .i64 l[k].p.fr) ∧ w.cell? ⟨b, off + k * 6 + 2, none⟩ = some (.int .i64 l[k].p.tt) ∧ w.cell? ⟨b, off + k * 6 + 3, none⟩ = some (.string l[k].p.s) ∧ w.cell? ⟨b, off + k * 6 + 4, none⟩ = some (.int .i64 l[k].n) ∧ w.cell? ⟨b, off + k * 6 + 5, none⟩ = some (.int .i64 l[k].mm) := by
  rcases h with ⟨ad, cap, rfl, rfl⟩ | ⟨b, off, cap, rfl, hb, hc⟩
  · exact ⟨ad, cap, rfl, fun k hk => absurd hk (by simp)⟩
  · exact ⟨_, cap, rfl, fun k hk => ⟨b, off, rfl, hb, hc k hk 0 (by omega), hc k hk 1 (by omega), hc k hk 2 (by omega), hc k hk 3 (by omega), hc k hk 4 (by omega), hc k hk 5 (by omega)⟩⟩
def rnet0 : RNet := ⟨[], [], 0, 0, 0⟩
theorem rel0 : Rel net0 rnet0 := ⟨rfl, rfl, rfl, rfl, List.length_replicate, fun a b _ _ => cut0 a b⟩
theorem rf0 (w : World) : RfIs w (.slice none 0 0) (.slice none 0 0) rnet0 := ⟨⟨rfl, .inl ⟨rfl, rfl⟩⟩, ⟨rfl, .inl ⟨rfl, rfl⟩⟩, by decide, by decide, by decide, by decide, by decide⟩
/-- how much there may be behind k steps -/
def BdN (n : Net) (m : RNet) (k : Nat) : Prop := n.se ≤ k ∧ n.ta ≤ k ∧ n.lo ≤ 5000 * k ∧ m.cs.length ≤ k
set_option maxRecDepth 100000 in
set_option maxHeartbeats 4000000 in
theorem wiresPlays_core (v : Value) (l : List A8) (w : World) (hv : ActsI w v l) (hxl : l.length ≤ 9223372036854775807) (hxs : ∀ x ∈ l, x.p.s.size ≤ 140737488355328) : Calls Try.prog 3 #[v] w fun e w' => e = .returned (.bool true) ∧ Below w.heap.size w w' := by
  have NW := hid (newA w)
  have AW := hid (fun W => awake8 W)
  obtain ⟨ad, cap, rfl, hcl⟩ := hv.form
  have HCL := hid hcl
  have HXS := hid hxs
  clear hcl hv hxs
  go_enter Try.func3, Try.ntmps3
  go_wp2_with fail
  refine NW.out.mono ?_
  rintro e w1 ⟨rfl, h1⟩
  have H1 := hid (h1.keep (keep_alloc (fun _ => False) w1 (.cells #[.slice none 0 0, .slice none 0 0, .int .i64 0, .int .i64 0, .int .i64 0] 28)))
  have HB1 := hid (row1 w1 [.slice none 0 0, .slice none 0 0, .int .i64 0, .int .i64 0, .int .i64 0] 28)
  have hsz : w.heap.size < w1.heap.size := by obtain ⟨P, hn, _⟩ := h1; exact hn.lt
  have HSZ := hid hsz
  clear h1 NW hsz
  go_wp2_with fail
  refine (AW.out _).mono ?_
  rintro e w2 ⟨rfl, k2⟩
  have H2 := hid (H1.out.keep k2)
  have HB2 := hid (HB1.out.keep k2 (fun h => h))
  clear k2 H1 HB1 AW
  go_wp2
  go_loopw [5] (fun i wr => ∃ (k : Nat) (lv cv : Value) (n : Net) (m : RNet), k ≤ l.length ∧ k ≤ 80 ∧ i = .int .i64 (k : Int) ∧ Hid (NSt w (fun _ => False) w.heap.size n wr) ∧ Hid (RfIs wr lv cv m) ∧ Hid (Rel n m) ∧ Hid (RowIs wr w1.heap.size [lv, cv, .int .i64 m.se, .int .i64 m.ta, .int .i64 m.lo] 28) ∧ Hid (BdN n m k)) (fun i _ => l.length - (intOf i).toNat)
  case atStart => exact ⟨0, _, _, net0, rnet0, Nat.zero_le _, Nat.zero_le _, rfl, H2, rf0 _, rel0, HB2, by unfold BdN; exact ⟨Nat.le_refl _, Nat.le_refl _, Nat.le_refl _, Nat.le_refl _⟩⟩
  case round =>
    clear H2 HB2
    obtain ⟨k, lv, cv, n, m, hk, hk8, rfl, HN, HR, HL, HB, HD⟩ := hrel
    obtain ⟨ad1, c1, rfl⟩ := row_form HR.out.l
    obtain ⟨ad2, c2, rfl⟩ := row_form HR.out.c
    by_cases hlt : k < l.length ∧ k < 80
    · obtain ⟨hlt, hl8⟩ := hlt
      have hk0 : (0 : Int) ≤ (k : Int) := by omega
      have hk1 : (k : Int) < (l.length : Int) := by omega
      have hk9 : (k : Int) < 80 := by omega
      obtain ⟨bd1, bd2, bd3, bd4⟩ := HD.out
      have hrl := HL.out
      have ON := hid (fun W (h1 : NSt w (fun _ => False) w.heap.size n W) (h2 : RfIs W (.slice ad1 m.L.length c1) (.slice ad2 m.cs.length c2) m) => one_gen w (fun _ => False) w.heap.size n _ _ m l[k] W h1 h2 (HXS.out _ (List.getElem_mem hlt)) ⟨by omega, by omega, by omega⟩ ⟨by rw [← hrl.se]; omega, by rw [← hrl.ta]; omega, by rw [← hrl.lo]; omega, by omega⟩ (.inl hrl))
      have HCK := hid (HCL.out k hlt)
      clear hrl bd1 bd2 bd3 bd4 HCL
      generalize l[k] = a at *
      obtain ⟨kd, ⟨fr, tt, s⟩, an, am⟩ := a
      unfold a8V rmV at ON
      simp only at ON HCK
      obtain ⟨bb, off, rfl, hbw, _⟩ := HCK.out
      have HCW : Hid (∀ W, Keep (fun _ => False) w W → W.cell? ⟨bb, off + k * 6, none⟩ = some (.int .i64 kd) ∧ W.cell? ⟨bb, off + k * 6 + 1, none⟩ = some (.int .i64 fr) ∧ W.cell? ⟨bb, off + k * 6 + 2, none⟩ = some (.int .i64 tt) ∧ W.cell? ⟨bb, off + k * 6 + 3, none⟩ = some (.string s) ∧ W.cell? ⟨bb, off + k * 6 + 4, none⟩ = some (.int .i64 an) ∧ W.cell? ⟨bb, off + k * 6 + 5, none⟩ = some (.int .i64 am)) := fun W hW => by
        obtain ⟨b2, o2, e2, _, q0, q1, q2, q3, q4, q5⟩ := HCK.out
        injection e2 with e2
        injection e2 with e2 e3
        subst e2 e3
        exact ⟨(hW.cell hbw (fun h => h)).trans q0, (hW.cell hbw (fun h => h)).trans q1, (hW.cell hbw (fun h => h)).trans q2, (hW.cell hbw (fun h => h)).trans q3, (hW.cell hbw (fun h => h)).trans q4, (hW.cell hbw (fun h => h)).trans q5⟩
      have SK : Hid (∀ w', RowIs w' w1.heap.size [.slice ad1 m.L.length c1, .slice ad2 m.cs.length c2, .int .i64 m.se, .int .i64 m.ta, .int .i64 m.lo] 28 → Keep (fun _ => False) w w' → (w'.cell? ⟨w1.heap.size, 0, none⟩ = some (.slice ad1 m.L.length c1) ∧ w'.cell? ⟨w1.heap.size, 1, none⟩ = some (.slice ad2 m.cs.length c2) ∧ w'.cell? ⟨w1.heap.size, 2, none⟩ = some (.int .i64 m.se) ∧ w'.cell? ⟨w1.heap.size, 3, none⟩ = some (.int .i64 m.ta) ∧ w'.cell? ⟨w1.heap.size, 4, none⟩ = some (.int .i64 m.lo) ∧ w'.cell? ⟨bb, off + k * 6, none⟩ = some (.int .i64 kd) ∧ w'.cell? ⟨bb, off + k * 6 + 1, none⟩ = some (.int .i64 fr) ∧ w'.cell? ⟨bb, off + k * 6 + 2, none⟩ = some (.int .i64 tt) ∧ w'.cell? ⟨bb, off + k * 6 + 3, none⟩ = some (.string s) ∧ w'.cell? ⟨bb, off + k * 6 + 4, none⟩ = some (.int .i64 an) ∧ w'.cell? ⟨bb, off + k * 6 + 5, none⟩ = some (.int .i64 am))) := fun w' r1 hW => by
        obtain ⟨q0, q1, q2, q3, q4, q5⟩ := HCW.out w' hW
        exact ⟨r1.cellAt rfl, r1.cellAt rfl, r1.cellAt rfl, r1.cellAt rfl, r1.cellAt rfl, q0, q1, q2, q3, q4, q5⟩
      have kd0 := keep_drew (fun _ => False) wr
      have S0 := hid (SK.out wr HB.out HN.out.kp)
      have SD := hid (SK.out wr.drew (HB.out.keep kd0 (fun h => h)) (HN.out.kp.trans kd0))
      have OC : Hid (∀ W, Keep (fun _ => False) wr W → Calls Try.prog 11 #[.pointer (some ⟨w.heap.size, 0, none⟩), .agg #[.slice ad1 m.L.length c1, .slice ad2 m.cs.length c2, .int .i64 m.se, .int .i64 m.ta, .int .i64 m.lo], .agg #[.int .i64 kd, .int .i64 fr, .int .i64 tt, .string s, .int .i64 an, .int .i64 am]] W fun e w' => (∃ ad3 c3 ad4 c4 m' n', e = .returned (.tuple #[.agg #[.slice ad3 m'.L.length c3, .slice ad4 m'.cs.length c4, .int .i64 m'.se, .int .i64 m'.ta, .int .i64 m'.lo], .bool true]) ∧ Hid (RfIs w' (.slice ad3 m'.L.length c3) (.slice ad4 m'.cs.length c4) m' ∧ NSt w (fun _ => False) w.heap.size n' w' ∧ Rel n' m' ∧ BdN n' m' (k + 1) ∧ RowIs w' w1.heap.size [.slice ad1 m.L.length c1, .slice ad2 m.cs.length c2, .int .i64 m.se, .int .i64 m.ta, .int .i64 m.lo] 28)) ∧ (w'.cell? ⟨w1.heap.size, 0, none⟩ = some (.slice ad1 m.L.length c1) ∧ w'.cell? ⟨w1.heap.size, 1, none⟩ = some (.slice ad2 m.cs.length c2) ∧ w'.cell? ⟨w1.heap.size, 2, none⟩ = some (.int .i64 m.se) ∧ w'.cell? ⟨w1.heap.size, 3, none⟩ = some (.int .i64 m.ta) ∧ w'.cell? ⟨w1.heap.size, 4, none⟩ = some (.int .i64 m.lo) ∧ w'.cell? ⟨bb, off + k * 6, none⟩ = some (.int .i64 kd) ∧ w'.cell? ⟨bb, off + k * 6 + 1, none⟩ = some (.int .i64 fr) ∧ w'.cell? ⟨bb, off + k * 6 + 2, none⟩ = some (.int .i64 tt) ∧ w'.cell? ⟨bb, off + k * 6 + 3, none⟩ = some (.string s) ∧ w'.cell? ⟨bb, off + k * 6 + 4, none⟩ = some (.int .i64 an) ∧ w'.cell? ⟨bb, off + k * 6 + 5, none⟩ = some (.int .i64 am)) ∧ Hid (∀ X, (w'.alloc X).cell? ⟨w1.heap.size, 0, none⟩ = some (.slice ad1 m.L.length c1) ∧ (w'.alloc X).cell? ⟨w1.heap.size, 1, none⟩ = some (.slice ad2 m.cs.length c2) ∧ (w'.alloc X).cell? ⟨w1.heap.size, 2, none⟩ = some (.int .i64 m.se) ∧ (w'.alloc X).cell? ⟨w1.heap.size, 3, none⟩ = some (.int .i64 m.ta) ∧ (w'.alloc X).cell? ⟨w1.heap.size, 4, none⟩ = some (.int .i64 m.lo) ∧ (w'.alloc X).cell? ⟨bb, off + k * 6, none⟩ = some (.int .i64 kd) ∧ (w'.alloc X).cell? ⟨bb, off + k * 6 + 1, none⟩ = some (.int .i64 fr) ∧ (w'.alloc X).cell? ⟨bb, off + k * 6 + 2, none⟩ = some (.int .i64 tt) ∧ (w'.alloc X).cell? ⟨bb, off + k * 6 + 3, none⟩ = some (.string s) ∧ (w'.alloc X).cell? ⟨bb, off + k * 6 + 4, none⟩ = some (.int .i64 an) ∧ (w'.alloc X).cell? ⟨bb, off + k * 6 + 5, none⟩ = some (.int .i64 am)) ∧ Hid (∀ g cs, RowIs W g cs 28 → RowIs w' g cs 28)) := fun W hW => (ON.out W (HN.out.keep hW) (HR.out.keep hW)).mono fun e w' ⟨lv', cv', m', n', b, he, hr, hn, hk, hg, hc, hrel⟩ => by
        obtain ⟨ad3, c3, rfl⟩ := row_form hr.l
        obtain ⟨ad4, c4, rfl⟩ := row_form hr.c
        obtain ⟨e1, e2⟩ := hrel HL.out
        subst e1
        have hB := HB.out.keep hW (fun h => h)
        have rB := hB.keep hk (fun hn => hn.2 (Oth.row hB (by decide) (by decide)))
        obtain ⟨bd1, bd2, bd3, bd4⟩ := HD.out
        refine ⟨⟨ad3, c3, ad4, c4, m', n', he, hr, hn, e2, ?_, rB⟩, SK.out w' rB hn.kp, fun X => SK.out _ (rB.keep (keep_alloc (fun _ => False) w' X) (fun h => h)) (hn.kp.trans (keep_alloc _ _ _)), fun g cs r => r.keep hk (fun hn => hn.2 (Oth.row r (by decide) (by decide)))⟩
        have g1 := hg.se
        have g2 := hg.ta
        have g3 := hg.lo
        unfold BdN
        exact ⟨by omega, by omega, by omega, by omega⟩
      have OCD := hid (OC.out wr.drew kd0)
      have OCA := hid (OC.out (wr.alloc (Obj.cells #[.slice none 0 0, .slice none 0 0, .int .i64 0, .int .i64 0, .int .i64 0] 28)).drew ((keep_alloc _ _ _).trans (keep_drew _ _)))
      have SA := hid (SK.out (wr.alloc (Obj.cells #[.slice none 0 0, .slice none 0 0, .int .i64 0, .int .i64 0, .int .i64 0] 28)) (HB.out.keep (keep_alloc (fun _ => False) _ _) (fun h => h)) (HN.out.kp.trans (keep_alloc _ _ _)))
      have SAD := hid (SK.out (wr.alloc (Obj.cells #[.slice none 0 0, .slice none 0 0, .int .i64 0, .int .i64 0, .int .i64 0] 28)).drew ((HB.out.keep (keep_alloc (fun _ => False) _ _) (fun h => h)).keep (keep_drew (fun _ => False) _) (fun h => h)) ((HN.out.kp.trans (keep_alloc _ _ _)).trans (keep_drew _ _)))
      have RZA : Hid (RowIs (wr.alloc (Obj.cells #[.slice none 0 0, .slice none 0 0, .int .i64 0, .int .i64 0, .int .i64 0] 28)).drew wr.heap.size [.slice none 0 0, .slice none 0 0, .int .i64 0, .int .i64 0, .int .i64 0] 28) := (row1 wr _ _).keep (keep_drew (fun _ => False) _) (fun h => h)
      have hltc : w1.heap.size < wr.heap.size := HB.out.lt
      have HLC := hid hltc
      have SS : Hid (∀ W a0 a1 a2 a3 a4, RowIs W w1.heap.size [.slice ad1 m.L.length c1, .slice ad2 m.cs.length c2, .int .i64 m.se, .int .i64 m.ta, .int .i64 m.lo] 28 → Keep (fun _ => False) w W → w.heap.size ≤ wr.heap.size → ((((((W.setCell ⟨wr.heap.size, 0, none⟩ a0).setCell ⟨wr.heap.size, 1, none⟩ a1).setCell ⟨wr.heap.size, 2, none⟩ a2).setCell ⟨wr.heap.size, 3, none⟩ a3).setCell ⟨wr.heap.size, 4, none⟩ a4).cell? ⟨w1.heap.size, 0, none⟩ = some (.slice ad1 m.L.length c1) ∧ (((((W.setCell ⟨wr.heap.size, 0, none⟩ a0).setCell ⟨wr.heap.size, 1, none⟩ a1).setCell ⟨wr.heap.size, 2, none⟩ a2).setCell ⟨wr.heap.size, 3, none⟩ a3).setCell ⟨wr.heap.size, 4, none⟩ a4).cell? ⟨w1.heap.size, 1, none⟩ = some (.slice ad2 m.cs.length c2) ∧ (((((W.setCell ⟨wr.heap.size, 0, none⟩ a0).setCell ⟨wr.heap.size, 1, none⟩ a1).setCell ⟨wr.heap.size, 2, none⟩ a2).setCell ⟨wr.heap.size, 3, none⟩ a3).setCell ⟨wr.heap.size, 4, none⟩ a4).cell? ⟨w1.heap.size, 2, none⟩ = some (.int .i64 m.se) ∧ (((((W.setCell ⟨wr.heap.size, 0, none⟩ a0).setCell ⟨wr.heap.size, 1, none⟩ a1).setCell ⟨wr.heap.size, 2, none⟩ a2).setCell ⟨wr.heap.size, 3, none⟩ a3).setCell ⟨wr.heap.size, 4, none⟩ a4).cell? ⟨w1.heap.size, 3, none⟩ = some (.int .i64 m.ta) ∧ (((((W.setCell ⟨wr.heap.size, 0, none⟩ a0).setCell ⟨wr.heap.size, 1, none⟩ a1).setCell ⟨wr.heap.size, 2, none⟩ a2).setCell ⟨wr.heap.size, 3, none⟩ a3).setCell ⟨wr.heap.size, 4, none⟩ a4).cell? ⟨w1.heap.size, 4, none⟩ = some (.int .i64 m.lo) ∧ (((((W.setCell ⟨wr.heap.size, 0, none⟩ a0).setCell ⟨wr.heap.size, 1, none⟩ a1).setCell ⟨wr.heap.size, 2, none⟩ a2).setCell ⟨wr.heap.size, 3, none⟩ a3).setCell ⟨wr.heap.size, 4, none⟩ a4).cell? ⟨bb, off + k * 6, none⟩ = some (.int .i64 kd) ∧ (((((W.setCell ⟨wr.heap.size, 0, none⟩ a0).setCell ⟨wr.heap.size, 1, none⟩ a1).setCell ⟨wr.heap.size, 2, none⟩ a2).setCell ⟨wr.heap.size, 3, none⟩ a3).setCell ⟨wr.heap.size, 4, none⟩ a4).cell? ⟨bb, off + k * 6 + 1, none⟩ = some (.int .i64 fr) ∧ (((((W.setCell ⟨wr.heap.size, 0, none⟩ a0).setCell ⟨wr.heap.size, 1, none⟩ a1).setCell ⟨wr.heap.size, 2, none⟩ a2).setCell ⟨wr.heap.size, 3, none⟩ a3).setCell ⟨wr.heap.size, 4, none⟩ a4).cell? ⟨bb, off + k * 6 + 2, none⟩ = some (.int .i64 tt) ∧ (((((W.setCell ⟨wr.heap.size, 0, none⟩ a0).setCell ⟨wr.heap.size, 1, none⟩ a1).setCell ⟨wr.heap.size, 2, none⟩ a2).setCell ⟨wr.heap.size, 3, none⟩ a3).setCell ⟨wr.heap.size, 4, none⟩ a4).cell? ⟨bb, off + k * 6 + 3, none⟩ = some (.string s) ∧ (((((W.setCell ⟨wr.heap.size, 0, none⟩ a0).setCell ⟨wr.heap.size, 1, none⟩ a1).setCell ⟨wr.heap.size, 2, none⟩ a2).setCell ⟨wr.heap.size, 3, none⟩ a3).setCell ⟨wr.heap.size, 4, none⟩ a4).cell? ⟨bb, off + k * 6 + 4, none⟩ = some (.int .i64 an) ∧ (((((W.setCell ⟨wr.heap.size, 0, none⟩ a0).setCell ⟨wr.heap.size, 1, none⟩ a1).setCell ⟨wr.heap.size, 2, none⟩ a2).setCell ⟨wr.heap.size, 3, none⟩ a3).setCell ⟨wr.heap.size, 4, none⟩ a4).cell? ⟨bb, off + k * 6 + 5, none⟩ = some (.int .i64 am))) := fun W a0 a1 a2 a3 a4 r hW hle => SK.out _ ((((((r.keep (keep_setCell _ wr.heap.size 0 a0) (fun e => by omega)).keep (keep_setCell _ wr.heap.size 1 a1) (fun e => by omega)).keep (keep_setCell _ wr.heap.size 2 a2) (fun e => by omega)).keep (keep_setCell _ wr.heap.size 3 a3) (fun e => by omega)).keep (keep_setCell _ wr.heap.size 4 a4) (fun e => by omega))) (((((hW.then (keep_setCell _ _ _ _) (fun j hj e => by omega)).then (keep_setCell _ _ _ _) (fun j hj e => by omega)).then (keep_setCell _ _ _ _) (fun j hj e => by omega)).then (keep_setCell _ _ _ _) (fun j hj e => by omega)).then (keep_setCell _ _ _ _) (fun j hj e => by omega))
      have HLE : Hid (w.heap.size ≤ wr.heap.size) := HN.out.size
      clear SK kd0 ON HCK HCW HL HD HN HR hbw OC hltc
      obtain ⟨s0, s1, s2, s3, s4, s5, s6, s7, s8, s9, s10⟩ := S0.out
      go_wp2
      go_cut [6, 7] from 26 to 35 (fun s6 s7 wx => ∃ g ad3 c3 ad4 c4 m' n', s6 = .pointer (some ⟨g, 0, none⟩) ∧ s7 = .bool true ∧ Hid (RfIs wx (.slice ad3 m'.L.length c3) (.slice ad4 m'.cs.length c4) m' ∧ NSt w (fun _ => False) w.heap.size n' wx ∧ Rel n' m' ∧ BdN n' m' (k + 1) ∧ RowIs wx w1.heap.size [.slice ad1 m.L.length c1, .slice ad2 m.cs.length c2, .int .i64 m.se, .int .i64 m.ta, .int .i64 m.lo] 28 ∧ RowIs wx g [.slice ad3 m'.L.length c3, .slice ad4 m'.cs.length c4, .int .i64 m'.se, .int .i64 m'.ta, .int .i64 m'.lo] 28 ∧ w1.heap.size < g))
      case first =>
        go_region_held3 (fun w' => w'.cell? ⟨w1.heap.size, 0, none⟩ = some (.slice ad1 m.L.length c1) ∧ w'.cell? ⟨w1.heap.size, 1, none⟩ = some (.slice ad2 m.cs.length c2) ∧ w'.cell? ⟨w1.heap.size, 2, none⟩ = some (.int .i64 m.se) ∧ w'.cell? ⟨w1.heap.size, 3, none⟩ = some (.int .i64 m.ta) ∧ w'.cell? ⟨w1.heap.size, 4, none⟩ = some (.int .i64 m.lo) ∧ w'.cell? ⟨bb, off + k * 6, none⟩ = some (.int .i64 kd) ∧ w'.cell? ⟨bb, off + k * 6 + 1, none⟩ = some (.int .i64 fr) ∧ w'.cell? ⟨bb, off + k * 6 + 2, none⟩ = some (.int .i64 tt) ∧ w'.cell? ⟨bb, off + k * 6 + 3, none⟩ = some (.string s) ∧ w'.cell? ⟨bb, off + k * 6 + 4, none⟩ = some (.int .i64 an) ∧ w'.cell? ⟨bb, off + k * 6 + 5, none⟩ = some (.int .i64 am)) (first | (refine ⟨?_, ?_, ?_, ?_, ?_, ?_, ?_, ?_, ?_, ?_, ?_⟩ <;> with_reducible assumption) | with_reducible (exact S0.out) | with_reducible (exact SD.out) | with_reducible (exact SA.out) | with_reducible (exact SAD.out) | with_reducible (exact hSA.out _) | with_reducible (exact SS.out _ _ _ _ _ _ hE.out.2.2.2.2 hE.out.2.1.kp HLE.out)) (first | (go_at_call 11; with_reducible (refine OCD.out.mono ?_); rintro e w5 ⟨⟨ad3, c3, ad4, c4, m', n', rfl, hE⟩, ⟨e0, e1, e2, e3, e4, e5, e6, e7, e8, e9, e10⟩, hSA, hRZ⟩) | (go_at_call 11; with_reducible (refine OCA.out.mono ?_); rintro e w5 ⟨⟨ad3, c3, ad4, c4, m', n', rfl, hE⟩, ⟨e0, e1, e2, e3, e4, e5, e6, e7, e8, e9, e10⟩, hSA, hRZ⟩; have rz := hRZ.out _ _ RZA.out; have y0 := rz.cellAt (o := 0) rfl; have y1 := rz.cellAt (o := 1) rfl; have y2 := rz.cellAt (o := 2) rfl; have y3 := rz.cellAt (o := 3) rfl; have y4 := rz.cellAt (o := 4) rfl; have h0 := rz.frozen (o := 0); have h1 := rz.frozen (o := 1); have h2 := rz.frozen (o := 2); have h3 := rz.frozen (o := 3); have h4 := rz.frozen (o := 4)))
        all_goals go_wp2_with fail
        all_goals go_meet
        · obtain ⟨x1, x2, x3, x4, x5⟩ := hE.out
          have ka := keep_alloc (fun _ => False) w5 (.cells #[.slice ad3 m'.L.length c3, .slice ad4 m'.cs.length c4, .int .i64 m'.se, .int .i64 m'.ta, .int .i64 m'.lo] 28)
          exact ⟨w5.heap.size, ad3, c3, ad4, c4, m', n', rfl, rfl, x1.keep ka, x2.keep ka, x3, x4, x5.keep ka (fun h => h), row1 w5 _ _, x5.lt⟩
        · obtain ⟨x1, x2, x3, x4, x5⟩ := hE.out
          have hlc := HLC.out
          have hle := HLE.out
          have HF := five (v0 := .slice ad3 m'.L.length c3) (v1 := .slice ad4 m'.cs.length c4) (v2 := .int .i64 m'.se) (v3 := .int .i64 m'.ta) (v4 := .int .i64 m'.lo) rz
          exact ⟨wr.heap.size, ad3, c3, ad4, c4, m', n', rfl, rfl, x1.put HF.2 ⟨_, rz⟩, x2.put HF.2 (Oth.row rz (by decide) (by decide)) hle, x3, x4, x5.keep HF.2 (fun e => by omega), HF.1, hlc⟩
      case rest =>
        obtain ⟨g, ad3, c3, ad4, c4, m', n', rfl, rfl, HX⟩ := hcut
        obtain ⟨x1, x2, x3, x4, x5, x6, x7⟩ := HX.out
        have SY := hid (nsays_any w (fun _ => False) w.heap.size n' _ _ m' wc x2 x1 x3)
        unfold rmV at SY
        have HR1 := hid x1
        have HL1 := hid x3
        have HD1 := hid x4
        have HB1 := hid x5
        have HG1 := hid x6
        have HW : Hid (w.heap.size < w1.heap.size) := HSZ.out
        have p0 := x6.cellAt (o := 0) rfl
        have p1 := x6.cellAt (o := 1) rfl
        have p2 := x6.cellAt (o := 2) rfl
        have p3 := x6.cellAt (o := 3) rfl
        have p4 := x6.cellAt (o := 4) rfl
        clear x1 x2 x3 x4 x5 x6 HX s0 s1 s2 s3 s4 s5 s6 s7 s8 s9 s10 S0 SD SA SAD SS OCD OCA RZA HB HLC HLE
        go_wp2_with fail
        refine SY.out.mono ?_
        rintro e w6 ⟨rfl, h6, k6⟩
        have rM := HB1.out.keep k6 (fun h => h)
        have rG := HG1.out.keep k6 (fun h => h)
        have HF := hid (five (v0 := .slice ad3 m'.L.length c3) (v1 := .slice ad4 m'.cs.length c4) (v2 := .int .i64 m'.se) (v3 := .int .i64 m'.ta) (v4 := .int .i64 m'.lo) rM)
        have hsz := HW.out
        have HN7 := hid (h6.put HF.out.2 (Oth.row rM (by decide) (by decide)) (by omega))
        have HR7 := hid ((HR1.out.keep k6).put HF.out.2 ⟨_, rM⟩)
        clear p0 p1 p2 p3 p4
        have p0 := rG.cellAt (o := 0) rfl
        have p1 := rG.cellAt (o := 1) rfl
        have p2 := rG.cellAt (o := 2) rfl
        have p3 := rG.cellAt (o := 3) rfl
        have p4 := rG.cellAt (o := 4) rfl
        have q0 := rM.cellAt (o := 0) rfl
        have q1 := rM.cellAt (o := 1) rfl
        have q2 := rM.cellAt (o := 2) rfl
        have q3 := rM.cellAt (o := 3) rfl
        have q4 := rM.cellAt (o := 4) rfl
        have f0 := rM.frozen (o := 0)
        have f1 := rM.frozen (o := 1)
        have f2 := rM.frozen (o := 2)
        have f3 := rM.frozen (o := 3)
        have f4 := rM.frozen (o := 4)
        clear rM rG h6 k6 SY HB1 HG1 HR1 hsz
        go_wp2
        exact ⟨⟨k + 1, _, _, n', m', by omega, by omega, by go_num, HN7, HR7, HL1, HF.out.1, HD1⟩, by simp [intOf]; omega⟩
    · have HKE := hid HN.out.kp
      by_cases hl : k < l.length
      · have hk8 : k = 80 := by omega
        subst hk8
        have hk1 : ((80 : Nat) : Int) < (l.length : Int) := by omega
        have hd8 : decide ((80 : Int) < 80) = false := by decide
        clear HN HR HL HB HD HCL HXS
        go_wp2
        go_ret
        exact ⟨rfl, keep_below HKE.out (fun _ _ h => h) (Nat.le_refl _)⟩
      · have hdl : decide ((k : Int) < (l.length : Int)) = false := decide_eq_false (by omega)
        clear HN HR HL HB HD HCL HXS
        go_wp2
        go_ret
        exact ⟨rfl, keep_below HKE.out (fun _ _ h => h) (Nat.le_refl _)⟩
end Go.Proofs.Ytfcchmjofejkhaa
