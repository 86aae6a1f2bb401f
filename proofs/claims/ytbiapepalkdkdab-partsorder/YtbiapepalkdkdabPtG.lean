/- Parts that are put together: slices.Grow, slices.Concat. -/
import Derived.Test.YtbiapepalkdkdabJoined07
import Derived.Test.YtbiapepalkdkdabCatM
import Derived.Deep.RegionHeld3
namespace Go.Proofs.Ytbiapepalkdkdab
open Go.RowKit Go.Maps
set_option linter.unusedVariables false
set_option linter.unusedSimpArgs false

--GROW
set_option maxRecDepth 100000 in
set_option maxHeartbeats 1000000 in
theorem growT_any (n : Nat) (w : World) (hn : n ≤ 1048576) : Calls Try.prog 73 #[.slice none 0 0, .int .i64 (n : Int)] w fun e w' => ∃ ad cap, e = .returned (.slice ad 0 cap) ∧ w'.ownsRow w.heap.size 25 4 (.slice ad 0 cap) 0 [] ∧ Below w.heap.size w w' := by
  by_cases h0 : n = 0
  · subst h0
    have HF : Hid (w.ownsRow w.heap.size 25 4 (.slice none 0 0) 0 []) := ⟨rfl, .inl ⟨rfl, rfl⟩⟩
    go_enter Try.func73, Try.ntmps73
    go_wp2
    go_ret
    exact ⟨none, 0, rfl, HF.out, Below.refl _ _⟩
  · have hd : decide ((n : Int) < 0) = false := decide_eq_false (by omega)
    have hd1 : decide (0 < (n : Int)) = true := decide_eq_true (by omega)
    have hd2 : decide (0 < n) = true := decide_eq_true (by omega)
    have hw : wrap64 (n : Int) = (n : Int) := by rw [IntWalk.wrap64_in _ (by omega)]
    have hw2 : wrap64 ((n : Int) - 0) = (n : Int) := by rw [Int.sub_zero, hw]
    have HG : Hid (∀ ty, ∃ cap w', (Builtin.append_ #[22, 3] ty #[.slice none 0 0, .int .i64 (n : Int)]).run Try.prog w = .ok (.slice (some ⟨w.heap.size, 0, none⟩) n cap) w' ∧ w'.ownsRow w.heap.size 25 4 (.slice (some ⟨w.heap.size, 0, none⟩) 0 cap) 0 [] ∧ Below w.heap.size w w') := fun ty => run_grow0 elT w ty n (by omega) hn (by decide)
    have hsl : ∀ W : World, (Instr.slice 22 (.slice none 0 0) none (some (.int .i64 0)) none).run Try.prog W = .ok (.slice none 0 0) W := fun W => by
      obtain ⟨z, hz, _⟩ := elT.inf
      obtain ⟨i0, hi, _⟩ := Option.map_eq_some_iff.1 hz
      simp [Instr.slice, Instr.sliceBounds, Instr.sliceBound, asIntOf, run_underlying elT.und, sizeOf, typeInfo, hi, Result.andThen]
    have HS2 : Hid (∀ (cap : Nat) (W : World), (Instr.slice 22 (.slice (some ⟨w.heap.size, 0, none⟩) n cap) none (some (.int .i64 0)) none).run Try.prog W = .ok (.slice (some ⟨w.heap.size, 0, none⟩) 0 cap) W) := fun cap W => by
      obtain ⟨z, hz, _⟩ := elT.inf
      obtain ⟨i0, hi, _⟩ := Option.map_eq_some_iff.1 hz
      simp [Instr.slice, Instr.sliceBounds, Instr.sliceBound, asIntOf, run_underlying elT.und, sizeOf, typeInfo, hi, Result.andThen, Addr.add]
    clear h0 hn
    obtain ⟨cap, w1, hr, ho, hb⟩ := HG.out 22
    have hs2 := HS2.out cap
    have HR : Hid ((Builtin.append_ #[22, 3] 22 #[.slice none 0 0, .int .i64 (wrap64 (n : Int))]).run Try.prog w = .ok (.slice (some ⟨w.heap.size, 0, none⟩) n cap) w1) := by rw [hw]; exact hr
    have hd3 : decide (0 < wrap64 (n : Int)) = true := by rw [hw]; exact hd1
    clear hw hw2
    have HO := hid ho
    have HB := hid hb
    clear HG HS2 hr ho hb
    go_enter Try.func73, Try.ntmps73
    go_wp2_with (at_builtin; refine Lib.wpList_append_run _ rfl _ _ _ _ rfl _ _ rfl rfl _ _ HR.out ?_)
    go_wp2
    go_ret
    exact ⟨_, cap, rfl, HO.out, HB.out⟩
set_option maxRecDepth 100000 in
set_option maxHeartbeats 2000000 in
theorem concatT_any (v : Value) (l : List Sr) (w : World) (hv : SrI w 4 v l) (hl : l.length ≤ 1048576) (hn : srN l ≤ 1048576) : Calls Try.prog 32 #[v] w fun e w' => ∃ ad cap, e = .returned (.slice ad (srN l) cap) ∧ w'.ownsRow w.heap.size 25 4 (.slice ad (srN l) cap) (srN l) (srC l) ∧ Below w.heap.size w w' := by
  obtain ⟨ad, cap, rfl, hc⟩ := hv.form
  have HC := hid hc
  have HL := hid hl
  have HNL : Hid (∀ k, srN (l.take k) ≤ 1048576) := fun k => Nat.le_trans (srN_le l k) hn
  have HTN : Hid (∀ (k : Nat) (hk : k < l.length), srN (l.take (k + 1)) = srN (l.take k) + l[k].n) := fun k hk => srN_take l k hk
  have HTC : Hid (∀ (k : Nat) (hk : k < l.length), srC (l.take (k + 1)) = srC (l.take k) ++ l[k].cs) := fun k hk => srC_take l k hk
  have HZ : Hid (l.take l.length = l) := List.take_length
  have GR : Hid (∀ W, Calls Try.prog 73 #[.slice none 0 0, .int .i64 (srN l : Int)] W fun e w' => ∃ ad cap, e = .returned (.slice ad 0 cap) ∧ w'.ownsRow W.heap.size 25 4 (.slice ad 0 cap) 0 [] ∧ Below W.heap.size W w') := fun W => growT_any _ W hn
  clear hc hv hl hn
  go_enter Try.func32, Try.ntmps32
  go_wp2
  go_loopw [3, 11] (fun s i wr => ∃ (k : Nat), k ≤ l.length ∧ s = .int .i64 (srN (l.take k) : Nat) ∧ i = .int .i64 (k : Int) ∧ wr = w) (fun _ i _ => l.length - (intOf i).toNat)
  case atStart => exact ⟨0, Nat.zero_le _, rfl, rfl, rfl⟩
  case round =>
    obtain ⟨k, hk, rfl, rfl, hwr⟩ := hrel
    have hwr2 := hwr.symm
    subst hwr2
    clear hwr
    by_cases hlt : k < l.length
    · have hk1 : (k : Int) < (l.length : Int) := by omega
      have hk0 : (0 : Int) ≤ (k : Int) := by omega
      obtain ⟨b, off, rfl, hb, c0, hr, hcl, hc1⟩ := HC.out k hlt
      obtain ⟨ad1, cap1, e1, hfm⟩ := RowC.form hr
      clear hcl hc1 hfm
      have hwk : wrap64 ((k : Int) + 1) = ((k + 1 : Nat) : Int) := by have := HL.out; rw [IntWalk.wrap64_in _ (by omega)]; omega
      have HTN1 := hid (HTN.out k hlt)
      have hB1 := HNL.out (k + 1)
      have HLT := hid hlt
      have hws : wrap64 ((srN (l.take k) : Int) + (l[k].n : Int)) = (srN (l.take (k + 1)) : Int) := by rw [HTN1.out] at hB1 ⊢; rw [IntWalk.wrap64_in _ (by omega)]; omega
      have hneg : decide ((srN (l.take (k + 1)) : Int) < 0) = false := decide_eq_false (by omega)
      clear HC HNL HTN HTC HZ GR hr hb HTN1 hB1
      rw [e1] at c0
      clear e1
      generalize l[k].n = n1 at *
      generalize srN (l.take k) = S0 at *
      generalize hs1 : srN (l.take (k + 1)) = S1 at *
      have HS1 := hid hs1
      clear hs1 hlt hk
      go_wp2
      exact ⟨⟨k + 1, HLT.out, by rw [HS1.out]; first | rfl | rw [hws] | simp, by first | rw [hwk] | rfl | simp, by trivial⟩, by (try rw [hwk]); have := HLT.out; simp [intOf]; omega⟩
    · have hke : k = l.length := by omega
      have hd : decide ((k : Int) < (l.length : Int)) = false := decide_eq_false (by omega)
      have hd2 : decide (k < l.length) = false := decide_eq_false hlt
      have hsr : srN (l.take k) = srN l := by rw [hke, HZ.out]
      rw [hsr]
      clear hke hsr hlt hk
      go_wp2_with fail
      refine (GR.out _).mono ?_
      rintro e w1 ⟨ad1, cp1, rfl, ho1, hb1⟩
      have R0 : Hid (w1.ownsRow w.heap.size 25 4 (.slice ad1 (srN (l.take 0)) cp1) (srN (l.take 0)) (srC (l.take 0))) := ho1
      have B0 := hid hb1
      clear ho1 hb1 GR
      go_wp2
      go_loopw [6, 27] (fun o i w2 => ∃ (k : Nat) (ad2 : Option Addr) (cp2 : Nat), k ≤ l.length ∧ o = .slice ad2 (srN (l.take k)) cp2 ∧ i = .int .i64 (k : Int) ∧ Hid (w2.ownsRow w.heap.size 25 4 (.slice ad2 (srN (l.take k)) cp2) (srN (l.take k)) (srC (l.take k))) ∧ Hid (Below w.heap.size w w2)) (fun _ i _ => l.length - (intOf i).toNat)
      case atStart => exact ⟨0, ad1, cp1, Nat.zero_le _, rfl, rfl, R0, B0⟩
      case round =>
        clear R0 B0 hd hd2
        obtain ⟨j, ad2, cp2, hj, rfl, rfl, HR, HB⟩ := hrel
        by_cases hjt : j < l.length
        · have hk1 : (j : Int) < (l.length : Int) := by omega
          have hk0 : (0 : Int) ≤ (j : Int) := by omega
          obtain ⟨b, off, rfl, hb, c0, hr, hcl, hc1⟩ := HC.out j hjt
          obtain ⟨ad3, cap3, e1, hfm⟩ := RowC.form hr
          clear hfm
          have hwk : wrap64 ((j : Int) + 1) = ((j + 1 : Nat) : Int) := by have := HL.out; rw [IntWalk.wrap64_in _ (by omega)]; omega
          have d0 := (HB.out.cell (p := ⟨b, off + j, none⟩) hb).trans c0
          have HX := hid (hr.next HB.out)
          rw [e1] at d0 HX
          have HTN1 := hid (HTN.out j hjt)
          have HTC1 := hid (HTC.out j hjt)
          have HCL := hid hcl
          have HC1 := hid hc1
          have HLT := hid hjt
          have HBb : Hid (srN (l.take j) + l[j].n ≤ 1048576) := by have := HNL.out (j + 1); rw [HTN1.out] at this; exact this
          have HB1 : Hid (srN (l.take j) + l[j].n ≤ 4611686018427387904) := by have := HBb.out; show _ ≤ _; omega
          have HB2 : Hid ((srN (l.take j) + l[j].n) * 56 ≤ 140737488355328) := by have := HBb.out; show _ ≤ _; omega
          have HSZ := hid HB.out.size
          clear HC HNL HTN HTC HZ hr hb hcl hc1 c0 e1 HBb
          have FIN : Hid (∀ ad' cap' w', w'.ownsRow w.heap.size 25 4 (.slice ad' (srN (l.take j) + l[j].n) cap') (srN (l.take j) + l[j].n) (srC (l.take j) ++ l[j].cs) → Keep (fun g => (Value.slice ad2 (srN (l.take j)) cp2).ownBlock = some g) wr w' → Hid (w'.ownsRow w.heap.size 25 4 (.slice ad' (srN (l.take (j + 1))) cap') (srN (l.take (j + 1))) (srC (l.take (j + 1)))) ∧ Hid (Below w.heap.size w w')) := fun ad' cap' w' hr' hk' => by
            refine ⟨?_, HB.out.trans (keep_below hk' (fun g hg e => by have := ownsRow_ge HR.out e; omega) HB.out.size)⟩
            show World.ownsRow _ _ _ _ _ _ _
            rw [HTN1.out, HTC1.out]; exact hr'
          generalize hs0 : srN (l.take j) = S0 at *
          clear hs0
          generalize hs1 : srN (l.take (j + 1)) = S1 at *
          have hs2 : S1 = S0 + l[j].n := HTN1.out
          have HS1 := hid hs1
          clear HTN1 HTC1 hs1
          generalize srC (l.take j) = PA at *
          generalize l[j] = y at *
          obtain ⟨yv, yn, ycs⟩ := y
          simp only at *
          subst hs2
          clear hjt hj
          go_wp2_with (at_builtin; refine wpl_gappR rfl _ _ elT rfl w.heap.size (.slice ad2 S0 cp2) (.slice ad3 yn cap3) PA ycs S0 yn (S0 + yn) rfl rfl rfl HR.out HSZ.out HX.out HCL.out HC1.out HB1.out HB2.out ?_; intro ad' cap' w' hr' hk')
          obtain ⟨F1, F2⟩ := FIN.out _ _ _ hr' hk'
          clear hr' hk' FIN HR HX HSZ d0
          go_wp2
          refine ⟨⟨j + 1, ad', cap', HLT.out, by rw [HS1.out], by first | rw [hwk] | rfl | simp, ?_, F2⟩, by (try rw [hwk]); have := HLT.out; simp [intOf]; omega⟩
          rw [HS1.out]; exact F1
        · have hke : j = l.length := by omega
          have hd : decide ((j : Int) < (l.length : Int)) = false := decide_eq_false (by omega)
          have hd2 : decide (j < l.length) = false := decide_eq_false hjt
          have hsr : l.take j = l := by rw [hke, HZ.out]
          rw [hsr] at HR ⊢
          clear HC HNL HTN HTC HZ HL hke hjt hj hsr
          go_wp2
          go_ret
          exact ⟨ad2, cp2, rfl, HR.out, HB.out⟩
--ENDGROW
end Go.Proofs.Ytbiapepalkdkdab
