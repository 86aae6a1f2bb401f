/- Packets in one list: slices.Grow of nothing, slices.Concat of two. -/
import Derived.Test.YtfcchmjofejkhaaNetT
import Derived.Lib.AppendZeros
namespace Go.Proofs.Ytfcchmjofejkhaa
open Go.RowKit Go.Maps
set_option linter.unusedVariables false
set_option linter.unusedSimpArgs false

theorem gsrc_form {w : World} {x : Value} {m : Nat} {cs : List Value} (h : GSrc w x m cs) : ∃ ad cap, x = .slice ad m cap := by
  rcases h with ⟨c, e, h0, _⟩ | ⟨g, off, c, e, _⟩
  · exact ⟨none, c, by rw [e, h0]⟩
  · exact ⟨_, _, e⟩
set_option maxRecDepth 100000 in
set_option maxHeartbeats 1000000 in
theorem grow_nil (n : Nat) (hn : n ≤ 1048576) (w : World) : Calls Try.prog 46 #[.slice none 0 0, .int .i64 n] w fun e w' => ∃ ad cap, e = .returned (.slice ad 0 cap) ∧ w'.ownsRow w.heap.size 33 3 (.slice ad 0 cap) 0 [] ∧ Keep (fun _ => False) w w' := by
  have h1 : ¬ ((n : Int) < 0) := by omega
  have h2 : wrap64 ((0 : Int) - 0) = 0 := IntWalk.wrap64_in _ (by omega)
  have h3 : wrap64 ((n : Int) - 0) = (n : Int) := by rw [Int.sub_zero]; exact IntWalk.wrap64_in _ (by omega)
  have h3' : wrap64 (n : Int) = (n : Int) := IntWalk.wrap64_in _ (by omega)
  by_cases h0 : n = 0
  · subst h0
    go_enter Try.func46, Try.ntmps46
    go_wp2
    go_ret
    exact ⟨none, 0, rfl, ⟨rfl, .inl ⟨rfl, rfl⟩⟩, Keep.refl _ _⟩
  · obtain ⟨z, hz, hzc⟩ := ElPk.inf
    obtain ⟨i0, hi, hz0, hz1, hz2⟩ := info_parts hz
    have AZ := fun W ty => Lib.run_append_nil_zeros (P := Try.prog) W 44 3 ty 33 i0 z .i64 .i64 Try.underlying44 Try.underlying3 hi hz0 n (by omega) (by rw [hz1]; omega) (by omega) (by rw [hz2]; omega)
    have hc := grownCap_ge w n 0 33
    have hcm := grownCap_le_maxLen w n 0 33 (by unfold maxLen; omega)
    have HAZ := hid (fun ty => AZ w ty)
    generalize grownCap w n 0 33 = cap at *
    obtain ⟨Z, hZ⟩ : ∃ Z, Z = Builtin.zeroCells z.cells n ++ Builtin.zeroCells z.cells (cap - n) := ⟨_, rfl⟩
    rw [← hZ] at HAZ
    have hZs : Z.size = cap * 3 := by rw [hZ]; simp [Builtin.zeroCells, hzc]; omega
    have hgt : (0 : Int) < (n : Int) := by omega
    have OWN : Hid ((w.drew.alloc (.cells Z 33)).ownsRow w.heap.size 33 3 (.slice (some ⟨w.heap.size, 0, none⟩) 0 cap) 0 []) := ⟨rfl, .inr ⟨w.heap.size, cap, Z, rfl, Nat.le_refl _, heap_alloc_new w.drew _, Nat.zero_le _, hcm, hZs, by simp⟩⟩
    clear hZ hzc hz hi hz0 hz1 hz2 AZ hcm hZs
    have hc0 : (0 : Int) ≤ (cap : Int) := by omega
    go_enter Try.func46, Try.ntmps46
    go_wp2_with (at_builtin; refine Lib.wpList_append_run _ rfl _ _ _ _ rfl _ _ rfl rfl _ _ (HAZ.out _) ?_)
    go_ret
    exact ⟨_, _, rfl, OWN.out, (keep_drew _ _).trans (keep_alloc _ _ _)⟩
set_option maxRecDepth 100000 in
set_option maxHeartbeats 2000000 in
theorem concat_two (b m1 m2 : Nat) (xA xB : Value) (A B : List Pk) (w : World) (cA : w.cell? ⟨b, 0, none⟩ = some xA) (cB : w.cell? ⟨b, 1, none⟩ = some xB) (hA : GSrc w xA m1 (pks A)) (hB : GSrc w xB m2 (pks B)) (lA : A.length = m1) (lB : B.length = m2) (h1 : m1 ≤ 8192) (h2 : m2 ≤ 8192) :
    Calls Try.prog 43 #[.slice (some ⟨b, 0, none⟩) 2 2] w fun e w' => ∃ ad cap, e = .returned (.slice ad (m1 + m2) cap) ∧ w'.ownsRow w.heap.size 33 3 (.slice ad (m1 + m2) cap) (m1 + m2) (pks (A ++ B)) ∧ Keep (fun _ => False) w w' := by
  have hb : b < w.heap.size := World.block_lt_of_cell? _ _ cA
  have GA := hid hA
  have GB := hid hB
  obtain ⟨adA, capA, rfl⟩ := gsrc_form hA
  obtain ⟨adB, capB, rfl⟩ := gsrc_form hB
  have GR : Hid (∀ W, Keep (fun _ => False) w W → Calls Try.prog 46 #[.slice none 0 0, .int .i64 ((m1 : Int) + (m2 : Int))] W fun e w' => ∃ ad cap, e = .returned (.slice ad 0 cap) ∧ w'.ownsRow w.heap.size 33 3 (.slice ad 0 cap) 0 (pks []) ∧ Keep (fun _ => False) w w') := fun W hW => (grow_nil (m1 + m2) (by omega) W).mono fun e w' ⟨ad, cap, he, ho, hk⟩ => ⟨ad, cap, he, ownsRow_base ho hW.size, hW.trans hk⟩
  have w1 : wrap64 ((0 : Int) + (m1 : Int)) = (m1 : Int) := by rw [Int.zero_add]; exact IntWalk.wrap64_in _ (by omega)
  have w2 : wrap64 ((m1 : Int) + (m2 : Int)) = (m1 : Int) + (m2 : Int) := IntWalk.wrap64_in _ (by omega)
  have n1 : ¬ ((m1 : Int) < 0) := by omega
  have n2 : ¬ ((m1 : Int) + (m2 : Int) < 0) := by omega
  have LA : Hid ((pks A).length = m1 * 3) := by show _ = _; rw [pks_len, lA]
  have LB : Hid ((pks B).length = m2 * 3) := by show _ = _; rw [pks_len, lB]
  have OA := hid (pks_one A)
  have OB := hid (pks_one B)
  have PA : Hid (pks (A ++ B) = pks A ++ pks B) := pks_app _ _
  have HZ : Hid (0 + m1 = m1) := Nat.zero_add _
  have HM1 : Hid (m1 ≤ 70368744177) := by show _ ≤ _; omega
  have HM2 : Hid (m1 * 32 ≤ 140737488355328) := by show _ ≤ _; omega
  have HM3 : Hid (m1 + m2 ≤ 70368744177) := by show _ ≤ _; omega
  have HM4 : Hid ((m1 + m2) * 32 ≤ 140737488355328) := by show _ ≤ _; omega
  clear hA hB lA lB
  go_enter Try.func43, Try.ntmps43
  go_wp2
  go_loopw [3, 11] (fun s i wr => w = wr ∧ ((s = .int .i64 0 ∧ i = .int .i64 0) ∨ (s = .int .i64 (m1 : Int) ∧ i = .int .i64 1) ∨ (s = .int .i64 ((m1 : Int) + (m2 : Int)) ∧ i = .int .i64 2))) (fun _ i _ => 2 - (intOf i).toNat)
  case atStart => exact ⟨rfl, .inl ⟨rfl, rfl⟩⟩
  case round =>
    obtain ⟨rfl, ⟨rfl, rfl⟩ | ⟨rfl, rfl⟩ | ⟨rfl, rfl⟩⟩ := hrel
    · go_wp2
      exact ⟨⟨by first | rfl | trivial, .inr (.inl ⟨rfl, rfl⟩)⟩, by simp [intOf]⟩
    · go_wp2
      exact ⟨⟨by first | rfl | trivial, .inr (.inr ⟨rfl, rfl⟩)⟩, by simp [intOf]⟩
    · go_wp2_with fail
      refine (GR.out _ (Keep.refl _ _)).mono ?_
      rintro e w3 ⟨ad, cap, rfl, ho, hk⟩
      have HO := hid ho
      have HK := hid hk
      clear ho hk GR
      go_wp2
      go_loopw [6, 27] (fun s i wr => Hid (Keep (fun _ => False) w wr) ∧ ∃ ad cap, (s = .slice ad 0 cap ∧ i = .int .i64 0 ∧ Hid (wr.ownsRow w.heap.size 33 3 (.slice ad 0 cap) 0 (pks []))) ∨ (s = .slice ad m1 cap ∧ i = .int .i64 1 ∧ Hid (wr.ownsRow w.heap.size 33 3 (.slice ad m1 cap) m1 (pks [] ++ pks A))) ∨ (s = .slice ad (m1 + m2) cap ∧ i = .int .i64 2 ∧ Hid (wr.ownsRow w.heap.size 33 3 (.slice ad (m1 + m2) cap) (m1 + m2) (pks [] ++ pks A ++ pks B)))) (fun _ i _ => 2 - (intOf i).toNat)
      case atStart => exact ⟨HK, _, _, .inl ⟨rfl, rfl, HO⟩⟩
      case round =>
        clear HO HK
        obtain ⟨HK, ad, cap, ⟨rfl, rfl, HO⟩ | ⟨rfl, rfl, HO⟩ | ⟨rfl, rfl, HO⟩⟩ := hrel
        · have dA := (HK.out.cell hb (fun h => h)).trans cA
          have GA2 := hid (GA.out.keep _ HK.out (fun _ _ h => h))
          have HS := hid HK.out.size
          go_wp2_with (at_builtin; refine wpl_gapp rfl _ _ ElPk rfl w.heap.size (.slice ad 0 cap) (.slice adA m1 capA) (pks []) (pks A) 0 m1 m1 HZ.out rfl rfl HO.out HS.out GA2.out LA.out OA.out HM1.out HM2.out ?_; intro ad' cap' w' ho' hk')
          exact ⟨⟨HK.out.then hk' (fun j hj e => by have := ownsRow_ge HO.out e; omega), _, _, .inr (.inl ⟨rfl, rfl, ho'⟩)⟩, by simp [intOf]⟩
        · have dB := (HK.out.cell hb (fun h => h)).trans cB
          have GB2 := hid (GB.out.keep _ HK.out (fun _ _ h => h))
          have HS := hid HK.out.size
          go_wp2_with (at_builtin; refine wpl_gapp rfl _ _ ElPk rfl w.heap.size (.slice ad m1 cap) (.slice adB m2 capB) (pks [] ++ pks A) (pks B) m1 m2 (m1 + m2) rfl rfl rfl HO.out HS.out GB2.out LB.out OB.out HM3.out HM4.out ?_; intro ad' cap' w' ho' hk')
          exact ⟨⟨HK.out.then hk' (fun j hj e => by have := ownsRow_ge HO.out e; omega), _, _, .inr (.inr ⟨rfl, rfl, ho'⟩)⟩, by simp [intOf]⟩
        · go_wp2
          go_ret
          exact ⟨_, _, rfl, by rw [PA.out]; exact HO.out, HK.out⟩
end Go.Proofs.Ytfcchmjofejkhaa
