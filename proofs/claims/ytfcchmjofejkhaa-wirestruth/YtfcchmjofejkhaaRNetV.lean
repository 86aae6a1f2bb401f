/- The reference's net: Clear, Cut. -/
import Derived.Test.YtfcchmjofejkhaaRNetT
namespace Go.Proofs.Ytfcchmjofejkhaa
open Go.RowKit Go.Maps
set_option linter.unusedVariables false
set_option linter.unusedSimpArgs false

/-- what stays of a net when the packets are lost that are told to go -/
def rloseD (m : RNet) (G : Pk → Bool) : RNet := { m with L := m.L.filter (fun x => !G x), lo := m.lo + (m.L.length - (m.L.filter (fun x => !G x)).length) }
theorem filt_le (L : List Pk) (K : Pk → Bool) : (L.filter K).length ≤ L.length := List.length_filter_le _ _

set_option maxRecDepth 100000 in
set_option maxHeartbeats 4000000 in
theorem rclear_any (lv cv : Value) (m : RNet) (node : Int) (w : World) (h : RfIs w lv cv m) (hlo : m.lo + 4096 < 1152921504606846976) : Calls Try.prog 29 #[rmV lv cv m, .int .i64 node] w fun e w' => ∃ lv', e = .returned (.tuple #[rmV lv' cv (rloseD m (fun x => x.tt == node)), .int .i64 ((m.L.length - (m.L.filter (fun x => !(x.tt == node))).length : Nat) : Int)]) ∧ RfIs w' lv' cv (rloseD m (fun x => x.tt == node)) ∧ Keep (fun _ => False) w w' := by
  obtain ⟨ad1, c1, rfl⟩ := row_form h.l
  obtain ⟨ad2, c2, rfl⟩ := row_form h.c
  have H := hid h
  have hll := h.ll
  have hfl := filt_le m.L (fun x => !(x.tt == node))
  unfold rmV
  clear h
  have K0 : Hid (Keep (fun _ => False) w ((w.alloc (.cells #[.slice ad1 m.L.length c1, .slice ad2 m.cs.length c2, .int .i64 m.se, .int .i64 m.ta, .int .i64 m.lo] 28)).alloc (.cells #[.slice none 0 0, .slice none 0 0, .int .i64 0, .int .i64 0, .int .i64 0] 28))) := (keep_alloc _ _ _).trans (keep_alloc _ _ _)
  have HA := hid ((row1 w [.slice ad1 m.L.length c1, .slice ad2 m.cs.length c2, .int .i64 m.se, .int .i64 m.ta, .int .i64 m.lo] 28).keep (keep_alloc (fun _ => False) _ (.cells #[.slice none 0 0, .slice none 0 0, .int .i64 0, .int .i64 0, .int .i64 0] 28)) (fun h => h))
  have HZ := hid (row2 w (.cells #[.slice ad1 m.L.length c1, .slice ad2 m.cs.length c2, .int .i64 m.se, .int .i64 m.ta, .int .i64 m.lo] 28) [.slice none 0 0, .slice none 0 0, .int .i64 0, .int .i64 0, .int .i64 0] 28)
  go_enter Try.func29, Try.ntmps29
  go_wp2
  generalize (w.alloc (.cells #[.slice ad1 m.L.length c1, .slice ad2 m.cs.length c2, .int .i64 m.se, .int .i64 m.ta, .int .i64 m.lo] 28)).alloc (.cells #[.slice none 0 0, .slice none 0 0, .int .i64 0, .int .i64 0, .int .i64 0] 28) = w1 at *
  go_loopw [6, 7] (fun sl i wr => ∃ (k : Nat) (ad : Option Addr) (cap : Nat), k ≤ m.L.length ∧ sl = .slice ad ((m.L.take k).filter (fun x => !(x.tt == node))).length cap ∧ i = .int .i64 (k : Int) ∧ Hid (wr.ownsRow w1.heap.size 58 3 (.slice ad ((m.L.take k).filter (fun x => !(x.tt == node))).length cap) ((m.L.take k).filter (fun x => !(x.tt == node))).length (pks ((m.L.take k).filter (fun x => !(x.tt == node))))) ∧ Hid (Keep (fun _ => False) w1 wr)) (fun _ i _ => m.L.length - (intOf i).toNat)
  case atStart => exact ⟨0, none, 0, Nat.zero_le _, rfl, rfl, ⟨rfl, .inl ⟨rfl, rfl⟩⟩, Keep.refl _ _⟩
  case round =>
    obtain ⟨k, ad, cap, hk, rfl, rfl, HO, HK⟩ := hrel
    have rA := HA.out.keep HK.out (fun h => h)
    have a0 := rA.cellAt (o := 0) rfl
    have a1 := rA.cellAt (o := 1) rfl
    have a2 := rA.cellAt (o := 2) rfl
    have a3 := rA.cellAt (o := 3) rfl
    have a4 := rA.cellAt (o := 4) rfl
    by_cases hlt : k < m.L.length
    · have hk0 : (0 : Int) ≤ (k : Int) := by omega
      have hk1 : (k : Int) < (m.L.length : Int) := by omega
      obtain ⟨g, cap', hv, hg, x0, x1, x2⟩ := rrow_cells ((K0.out.trans HK.out).ownsRow H.out.l (fun _ _ h => h)) k hlt
      injection hv with hv1 hv2 hv3
      subst hv1 hv3
      have HFS := hid (filt_succ m.L (fun x => !(x.tt == node)) k hlt)
      have hfk := filt_le (m.L.take k) (fun x => !(x.tt == node))
      rw [List.length_take] at hfk
      generalize m.L[k] = x at *
      obtain ⟨fr, tt, s⟩ := x
      simp only at *
      generalize (m.L.take k).filter (fun x => !(x.tt == node)) = FL at *
      generalize hFN : (m.L.take (k + 1)).filter (fun x => !(x.tt == node)) = FN at *
      by_cases he : tt = node
      · have hbe : (tt != node) = false := by simp [he]
        have HE : Hid (FN = FL) := by show _ = _; rw [HFS.out]; simp [he]
        clear HFS he H HA HZ rA
        go_wp2
        exact ⟨⟨k + 1, ad, cap, by omega, by rw [hFN, HE.out], by go_num, by rw [hFN, HE.out]; exact HO, HK⟩, by simp [intOf]; omega⟩
      · have hbe : (tt != node) = true := bne_iff_ne.2 he
        have HE : Hid (FN = FL ++ [⟨fr, tt, s⟩]) := by show _ = _; rw [HFS.out]; simp [he]
        have HO2 := hid ((keep_alloc (fun _ => False) wr (Obj.cells #[.int .i64 fr, .int .i64 tt, .string s] 58)).ownsRow HO.out (fun _ _ h => h))
        have HS2 : Hid (w1.heap.size ≤ (wr.alloc (Obj.cells #[.int .i64 fr, .int .i64 tt, .string s] 58)).heap.size) := by show _ ≤ _; have := HK.out.size; simp; omega
        have HG2 : Hid (GSrc (wr.alloc (Obj.cells #[.int .i64 fr, .int .i64 tt, .string s] 58)) (.slice (some ⟨wr.heap.size, 0, none⟩) 1 1) 1 (pks [⟨fr, tt, s⟩])) := gsrc_block (heap_alloc_new _ _)
        have OX := hid (pks_one [⟨fr, tt, s⟩])
        have B3 : Hid (FL.length + 1 ≤ 70368744177) := by show _ ≤ _; omega
        have B4 : Hid ((FL.length + 1) * 32 ≤ 140737488355328) := by show _ ≤ _; omega
        have HKA := hid (HK.out.trans (keep_alloc (fun _ => False) wr (Obj.cells #[.int .i64 fr, .int .i64 tt, .string s] 58)))
        clear HFS he H HA HZ rA
        go_wp2_with (at_builtin; refine wpl_gapp rfl _ _ ElRPk rfl w1.heap.size (.slice ad FL.length cap) (.slice (some ⟨wr.heap.size, 0, none⟩) 1 1) (pks FL) (pks [⟨fr, tt, s⟩]) FL.length 1 (FL.length + 1) rfl rfl rfl HO2.out HS2.out HG2.out rfl OX.out B3.out B4.out ?_; intro ad' cap' w' ho' hk')
        have HLE : (FL ++ [(⟨fr, tt, s⟩ : Pk)]).length = FL.length + 1 := by simp
        refine ⟨⟨k + 1, ad', cap', by omega, by rw [hFN, HE.out, HLE], by go_num, ?_, HKA.out.then hk' (fun j hj e => by have := ownsRow_ge HO2.out e; omega)⟩, by simp [intOf]; omega⟩
        rw [hFN, HE.out, HLE, pks_app]
        exact ho'
    · have hk9 : k = m.L.length := by omega
      subst hk9
      have hdl : decide ((m.L.length : Int) < (m.L.length : Int)) = false := decide_eq_false (by omega)
      rw [List.take_length] at HO
      have rZ := HZ.out.keep HK.out (fun h => h)
      have HFL : Hid (rloseD m (fun x => x.tt == node) = { m with L := m.L.filter (fun x => !(x.tt == node)), lo := m.lo + (m.L.length - (m.L.filter (fun x => !(x.tt == node))).length) }) := rfl
      simp only [List.take_length]
      generalize hF : m.L.filter (fun x => !(x.tt == node)) = F at *
      have HFE := hid hF
      clear hF
      have HCS : Hid (((m.L.length - F.length : Nat) : Int) = (m.L.length : Int) - (F.length : Int)) := by show _ = _; omega
      have hw1 : wrap64 ((m.L.length : Int) - (F.length : Int)) = (m.L.length : Int) - (F.length : Int) := IntWalk.wrap64_in _ (by omega)
      have hw2 : wrap64 ((m.lo : Int) + ((m.L.length : Int) - (F.length : Int))) = (m.lo : Int) + ((m.L.length : Int) - (F.length : Int)) := IntWalk.wrap64_in _ (by omega)
      have kB : Keep (· = w.heap.size) wr ((wr.setCell ⟨w.heap.size, 0, none⟩ (.slice ad F.length cap)).setCell ⟨w.heap.size, 4, none⟩ (.int .i64 ((m.lo : Int) + ((m.L.length : Int) - (F.length : Int))))) := (keep_setCell _ _ _ _).trans (keep_setCell _ _ _ _)
      have HF := hid (five (v0 := .slice ad F.length cap) (v1 := .slice ad2 m.cs.length c2) (v2 := .int .i64 m.se) (v3 := .int .i64 m.ta) (v4 := .int .i64 ((m.lo : Int) + ((m.L.length : Int) - (F.length : Int)))) (rZ.keep kB (fun e => by omega)))
      have HKB := hid kB
      have HZL : Hid (w.heap.size + 1 < w1.heap.size) := HZ.out.lt
      have f0 := rA.frozen (o := 0)
      have f1 := rA.frozen (o := 1)
      have f2 := rA.frozen (o := 2)
      have f3 := rA.frozen (o := 3)
      have f4 := rA.frozen (o := 4)
      have z0 := rZ.cellAt (o := 0) rfl
      have z1 := rZ.cellAt (o := 1) rfl
      have z2 := rZ.cellAt (o := 2) rfl
      have z3 := rZ.cellAt (o := 3) rfl
      have z4 := rZ.cellAt (o := 4) rfl
      have g0 := rZ.frozen (o := 0)
      have g1 := rZ.frozen (o := 1)
      have g2 := rZ.frozen (o := 2)
      have g3 := rZ.frozen (o := 3)
      have g4 := rZ.frozen (o := 4)
      clear kB rA rZ HA HZ
      go_wp2
      refine bodyPost_ret (v := .tuple #[.agg #[.slice ad F.length cap, .slice ad2 m.cs.length c2, .int .i64 m.se, .int .i64 m.ta, .int .i64 ((m.lo : Int) + ((m.L.length : Int) - (F.length : Int)))], .int .i64 ((m.L.length : Int) - (F.length : Int))]) (npk_cell_tmp (p := 4) (u := 5) rfl _ _ (w.heap.size + 1) _ _ rfl rfl (run_loadVar_row _ _ _ _ _ _ _ HF.out.1 Try.underlying28 rfl (by kernel_rfl))) rfl ?_
      have kk : Keep (fun _ => False) w _ := ((K0.out.trans HK.out).then HKB.out (fun j hj e => by omega)).then HF.out.2 (fun j hj e => by omega)
      have hzl := HZL.out
      have HC9 : (((m.lo + (m.L.length - F.length) : Nat)) : Int) = (m.lo : Int) + ((m.L.length : Int) - (F.length : Int)) := by omega
      refine ⟨.slice ad F.length cap, ?_, ?_, kk⟩
      · rw [HFL.out, HFE.out]
        show _ = Ending.returned (.tuple #[.agg #[.slice ad F.length cap, .slice ad2 m.cs.length c2, .int .i64 m.se, .int .i64 m.ta, .int .i64 ((m.lo + (m.L.length - F.length) : Nat) : Int)], .int .i64 ((m.L.length - F.length : Nat) : Int)])
        rw [HC9, HCS.out]
      · rw [HFL.out]
        refine ⟨?_, kk.ownsRow H.out.c (fun _ _ h => h), by show F.length ≤ _; omega, H.out.cl, H.out.se, H.out.ta, by show m.lo + _ ≤ _; omega⟩
        exact HF.out.2.ownsRow (HKB.out.ownsRow (ownsRow_base HO.out (Nat.zero_le _)) (fun g e e2 => by have := ownsRow_ge HO.out e; omega)) (fun g e e2 => by have := ownsRow_ge HO.out e; omega)

set_option maxRecDepth 100000 in
set_option maxHeartbeats 4000000 in
theorem rcut_none (lv cv : Value) (m : RNet) (a b : Int) (w : World) (h : RfIs w lv cv m) (ht : two a b = false) : Calls Try.prog 28 #[rmV lv cv m, .int .i64 a, .int .i64 b] w fun e w' => e = .returned (.tuple #[rmV lv cv m, .int .i64 0]) ∧ Keep (fun _ => False) w w' := by
  obtain ⟨ad1, c1, rfl⟩ := row_form h.l
  obtain ⟨ad2, c2, rfl⟩ := row_form h.c
  have HT : Hid (two a b = (isN a && isN b && !decide (a = b))) := rfl
  have NA := hid (fun W => rnode_any a W)
  have NB := hid (fun W => rnode_any b W)
  unfold rmV
  clear h
  rw [ht] at HT
  generalize isN a = xa at *
  generalize isN b = xb at *
  have HK : Hid (∀ X Y, Keep (fun _ => False) w ((w.alloc X).alloc Y)) := fun X Y => (keep_alloc _ _ _).trans (keep_alloc _ _ _)
  have HR := hid (row2 w (.cells #[.slice ad1 m.L.length c1, .slice ad2 m.cs.length c2, .int .i64 m.se, .int .i64 m.ta, .int .i64 m.lo] 28) [.slice ad1 m.L.length c1, .slice ad2 m.cs.length c2, .int .i64 m.se, .int .i64 m.ta, .int .i64 m.lo] 28)
  have fin : ∀ P : Prop, P → P := fun _ h => h
  clear ht
  cases xa with
  | false =>
    clear HT NB fin
    go_enter Try.func28, Try.ntmps28
    go_wp2_with fail
    refine (NA.out _).mono ?_
    rintro e w1 ⟨rfl, rfl⟩
    clear NA
    go_wp2
    refine bodyPost_ret (v := .tuple #[.agg #[.slice ad1 m.L.length c1, .slice ad2 m.cs.length c2, .int .i64 m.se, .int .i64 m.ta, .int .i64 m.lo], .int .i64 0]) (npk_cell_tmp (p := 6) (u := 7) rfl _ _ (w.heap.size + 1) _ _ rfl rfl (run_loadVar_row _ _ _ _ _ _ _ HR.out Try.underlying28 rfl (by kernel_rfl))) rfl ⟨rfl, HK.out _ _⟩
  | true =>
    cases xb with
    | false =>
      clear HT fin
      go_enter Try.func28, Try.ntmps28
      go_wp2_with fail
      refine (NA.out _).mono ?_
      rintro e w1 ⟨rfl, rfl⟩
      go_wp2_with fail
      refine (NB.out _).mono ?_
      rintro e w1 ⟨rfl, rfl⟩
      clear NA NB
      go_wp2
      refine bodyPost_ret (v := .tuple #[.agg #[.slice ad1 m.L.length c1, .slice ad2 m.cs.length c2, .int .i64 m.se, .int .i64 m.ta, .int .i64 m.lo], .int .i64 0]) (npk_cell_tmp (p := 6) (u := 7) rfl _ _ (w.heap.size + 1) _ _ rfl rfl (run_loadVar_row _ _ _ _ _ _ _ HR.out Try.underlying28 rfl (by kernel_rfl))) rfl ⟨rfl, HK.out _ _⟩
    | true =>
      have hab : a = b := by have := HT.out; simp at this; exact this
      have hfd : decide (a = b) = true := decide_eq_true hab
      have hfe : (a == b) = true := beq_iff_eq.2 hab
      clear HT fin hab
      go_enter Try.func28, Try.ntmps28
      go_wp2_with fail
      refine (NA.out _).mono ?_
      rintro e w1 ⟨rfl, rfl⟩
      go_wp2_with fail
      refine (NB.out _).mono ?_
      rintro e w1 ⟨rfl, rfl⟩
      clear NA NB
      go_wp2
      refine bodyPost_ret (v := .tuple #[.agg #[.slice ad1 m.L.length c1, .slice ad2 m.cs.length c2, .int .i64 m.se, .int .i64 m.ta, .int .i64 m.lo], .int .i64 0]) (npk_cell_tmp (p := 6) (u := 7) rfl _ _ (w.heap.size + 1) _ _ rfl rfl (run_loadVar_row _ _ _ _ _ _ _ HR.out Try.underlying28 rfl (by kernel_rfl))) rfl ⟨rfl, HK.out _ _⟩
end Go.Proofs.Ytfcchmjofejkhaa
