/- Kept tokens that are copied, and put together: the program's apart, slices.Grow, slices.Concat. -/
import Derived.Test.YtojiahdbgdgdcaaTkE
import Derived.Deep.RegionHeld3
namespace Go.Proofs.Ytojiahdbgdgdcaa
open Go.RowKit Go.Maps
set_option linter.unusedVariables false
set_option linter.unusedSimpArgs false

theorem own_lt {w : World} {B e s n g : Nat} {v : Value} {xs : List Value} (h : w.ownsRow B e s v n xs) (hg : v.ownBlock = some g) : g < w.heap.size := by
  rcases h.2 with ⟨e0, _⟩ | ⟨g1, c1, cur1, e0, _, hb, _⟩
  · rw [e0] at hg; simp [Value.ownBlock] at hg
  · rw [e0] at hg
    simp [Value.ownBlock] at hg
    subst hg
    exact (Array.getElem?_eq_some_iff.1 hb).1
set_option maxRecDepth 100000 in
set_option maxHeartbeats 4000000 in
theorem apart15_any (v : Value) (q : List Hd) (w : World) (hv : HdI w v q) (hl : q.length ≤ 1048576) (hs : ∀ y ∈ q, hdOk y = true) : Calls Try.prog 27 #[v] w fun e w' => ∃ ad cap, e = .returned (.slice ad q.length cap) ∧ OwnH w' w.heap.size 31 (.slice ad q.length cap) q ∧ Below w.heap.size w w' := by
  obtain ⟨ad, cap, rfl, hc⟩ := hv.form
  have HC := hid hc
  have HL := hid hl
  have HCL : Hid (∀ (k : Nat) (hk : k < q.length), (∀ W, Calls Try.prog 23 #[.string q[k].tk] W fun e w' => e = .returned (.string q[k].tk) ∧ Below W.heap.size W w') ∧ (∀ W, Calls Try.prog 23 #[.string q[k].su] W fun e w' => e = .returned (.string q[k].su) ∧ Below W.heap.size W w') ∧ (∀ W, Calls Try.prog 23 #[.string q[k].ou] W fun e w' => e = .returned (.string q[k].ou) ∧ Below W.heap.size W w')) := fun k hk => by
    have h := hdOk_sz (hs _ (List.getElem_mem hk))
    exact ⟨fun W => clone_any _ W (by omega), fun W => clone_any _ W (by omega), fun W => clone_any _ W (by omega)⟩
  have HTK : Hid (∀ (k : Nat) (hk : k < q.length), hqC (q.take (k + 1)) = hqC (q.take k) ++ hdC q[k]) := fun k hk => hqC_take q k hk
  have HZ : Hid (q.take q.length = q) := List.take_length
  have HR0 : Hid (w.ownsRow w.heap.size 31 4 (.slice none 0 0) 0 (hqC (q.take 0))) := ⟨rfl, .inl ⟨rfl, rfl⟩⟩
  clear hc hv hl hs
  go_enter Try.func27, Try.ntmps27
  go_wp2
  go_loopw [3, 8] (fun o i wr => ∃ (k : Nat) (ad1 : Option Addr) (cp1 : Nat), k ≤ q.length ∧ o = .slice ad1 k cp1 ∧ i = .int .i64 (k : Int) ∧ Hid (wr.ownsRow w.heap.size 31 4 (.slice ad1 k cp1) k (hqC (q.take k))) ∧ Hid (Below w.heap.size w wr)) (fun _ i _ => q.length - (intOf i).toNat)
  case atStart => exact ⟨0, none, 0, Nat.zero_le _, rfl, rfl, HR0, Below.refl _ _⟩
  case round =>
    clear HR0
    obtain ⟨k, ad1, cp1, hk, rfl, rfl, HR, HB⟩ := hrel
    by_cases hlt : k < q.length
    · have hk1 : (k : Int) < (q.length : Int) := by omega
      have hk0 : (0 : Int) ≤ (k : Int) := by omega
      obtain ⟨b, off, rfl, hb, c0, c1, c2, c3⟩ := HC.out k hlt
      have d0 := (HB.out.cell (p := ⟨b, off + k * 4, none⟩) hb).trans c0
      have d1 := (HB.out.cell (p := ⟨b, off + k * 4 + 1, none⟩) hb).trans c1
      have d2 := (HB.out.cell (p := ⟨b, off + k * 4 + 2, none⟩) hb).trans c2
      have d3 := (HB.out.cell (p := ⟨b, off + k * 4 + 3, none⟩) hb).trans c3
      have hwk : wrap64 ((k : Int) + 1) = ((k + 1 : Nat) : Int) := by have := HL.out; rw [IntWalk.wrap64_in _ (by omega)]; omega
      have HB1 : Hid (k + 1 ≤ 70368744177) := by have := HL.out; show _ ≤ _; omega
      have HB2 : Hid ((k + 1) * 56 ≤ 140737488355328) := by have := HL.out; show _ ≤ _; omega
      have HLT := hid hlt
      have HPL := hid (HTK.out k hlt)
      have CL := hid (HCL.out k hlt)
      have HO1 := hid (hdC_one q[k])
      have HX2 : Hid ((hdC q[k]).length = 1 * 4) := rfl
      have HXS : Hid (hdC q[k] = [.string q[k].tk, .string q[k].su, .string q[k].ou, .int .i64 q[k].at_]) := rfl
      clear HC c0 c1 c2 c3 HL hb HCL HTK HZ
      generalize q[k] = y at *
      obtain ⟨tk, su, ou, at_⟩ := y
      simp only at *
      generalize hdC _ = XS at *
      clear hlt hk
      have BM := hid (Bx.made (Below.refl wr.heap.size wr) [.string tk, .string su, .string ou, .int .i64 at_] 31)
      have y0 := BM.out.row.cellAt (o := 0) rfl
      have y1 := BM.out.row.cellAt (o := 1) rfl
      have y2 := BM.out.row.cellAt (o := 2) rfl
      have y3 := BM.out.row.cellAt (o := 3) rfl
      have HCE : Hid (∀ W, Bx wr wr.heap.size [.string tk, .string su, .string ou, .int .i64 at_] 31 W → W.cell? ⟨wr.heap.size, 0, none⟩ = some (.string tk) ∧ W.cell? ⟨wr.heap.size, 1, none⟩ = some (.string su) ∧ W.cell? ⟨wr.heap.size, 2, none⟩ = some (.string ou) ∧ W.cell? ⟨wr.heap.size, 3, none⟩ = some (.int .i64 at_)) := fun W h => ⟨h.row.cellAt rfl, h.row.cellAt rfl, h.row.cellAt rfl, h.row.cellAt rfl⟩
      have CL0 : Hid (∀ W, Bx wr wr.heap.size [.string tk, .string su, .string ou, .int .i64 at_] 31 W → Calls Try.prog 23 #[.string tk] W fun e w' => e = .returned (.string tk) ∧ (w'.cell? ⟨wr.heap.size, 0, none⟩ = some (.string tk) ∧ w'.cell? ⟨wr.heap.size, 1, none⟩ = some (.string su) ∧ w'.cell? ⟨wr.heap.size, 2, none⟩ = some (.string ou) ∧ w'.cell? ⟨wr.heap.size, 3, none⟩ = some (.int .i64 at_)) ∧ Hid (Bx wr wr.heap.size [.string tk, .string su, .string ou, .int .i64 at_] 31 w')) := fun W hW => (CL.out.1 W).mono fun e w' ⟨he, hb⟩ => ⟨he, HCE.out _ (hW.next hb), hW.next hb⟩
      have CL1 : Hid (∀ W, Bx wr wr.heap.size [.string tk, .string su, .string ou, .int .i64 at_] 31 W → Calls Try.prog 23 #[.string su] W fun e w' => e = .returned (.string su) ∧ (w'.cell? ⟨wr.heap.size, 0, none⟩ = some (.string tk) ∧ w'.cell? ⟨wr.heap.size, 1, none⟩ = some (.string su) ∧ w'.cell? ⟨wr.heap.size, 2, none⟩ = some (.string ou) ∧ w'.cell? ⟨wr.heap.size, 3, none⟩ = some (.int .i64 at_)) ∧ Hid (Bx wr wr.heap.size [.string tk, .string su, .string ou, .int .i64 at_] 31 w')) := fun W hW => (CL.out.2.1 W).mono fun e w' ⟨he, hb⟩ => ⟨he, HCE.out _ (hW.next hb), hW.next hb⟩
      have CL2 : Hid (∀ W, Bx wr wr.heap.size [.string tk, .string su, .string ou, .int .i64 at_] 31 W → Calls Try.prog 23 #[.string ou] W fun e w' => e = .returned (.string ou) ∧ (w'.cell? ⟨wr.heap.size, 0, none⟩ = some (.string tk) ∧ w'.cell? ⟨wr.heap.size, 1, none⟩ = some (.string su) ∧ w'.cell? ⟨wr.heap.size, 2, none⟩ = some (.string ou) ∧ w'.cell? ⟨wr.heap.size, 3, none⟩ = some (.int .i64 at_)) ∧ Hid (Bx wr wr.heap.size [.string tk, .string su, .string ou, .int .i64 at_] 31 w')) := fun W hW => (CL.out.2.2 W).mono fun e w' ⟨he, hb⟩ => ⟨he, HCE.out _ (hW.next hb), hW.next hb⟩
      have HGA : Hid (∀ W, Below wr.heap.size wr W → (W.alloc (.cells #[.string tk, .string su, .string ou, .int .i64 at_] 31)).ownsRow w.heap.size 31 4 (.slice ad1 k cp1) k (hqC (q.take k))) := fun W hW => ((below_al hW _).keep (fun _ => False)).ownsRow HR.out (fun _ _ h => h)
      have HSZ : Hid (∀ W, Below wr.heap.size wr W → w.heap.size ≤ (W.alloc (.cells #[.string tk, .string su, .string ou, .int .i64 at_] 31)).heap.size) := fun W hW => Nat.le_trans HB.out.size (below_al hW _).size
      have HGX : Hid (∀ W : World, GSrc (W.alloc (.cells #[.string tk, .string su, .string ou, .int .i64 at_] 31)) (.slice (some ⟨W.heap.size, 0, none⟩) 1 1) 1 XS) := fun W => by
        rw [HXS.out]; exact gsrc_block (heap_alloc_new _ _)
      have HC5 : Hid (∀ W w' : World, Bx wr wr.heap.size [.string tk, .string su, .string ou, .int .i64 at_] 31 W → Keep (fun j => (Value.slice ad1 k cp1).ownBlock = some j) W w' → w'.cell? ⟨wr.heap.size, 0, none⟩ = some (.string tk) ∧ w'.cell? ⟨wr.heap.size, 1, none⟩ = some (.string su) ∧ w'.cell? ⟨wr.heap.size, 2, none⟩ = some (.string ou) ∧ w'.cell? ⟨wr.heap.size, 3, none⟩ = some (.int .i64 at_)) := fun W w' h kk => by
        have hne : ¬ (Value.slice ad1 k cp1).ownBlock = some wr.heap.size := fun e => by have := own_lt HR.out e; omega
        have r := h.row.keep kk hne
        exact ⟨r.cellAt rfl, r.cellAt rfl, r.cellAt rfl, r.cellAt rfl⟩
      have FIN : Hid (∀ ad' cap' W w', Below wr.heap.size wr W → w'.ownsRow w.heap.size 31 4 (.slice ad' (k + 1) cap') (k + 1) (hqC (q.take k) ++ XS) → Keep (fun j => (Value.slice ad1 k cp1).ownBlock = some j) W w' → Hid (w'.ownsRow w.heap.size 31 4 (.slice ad' (k + 1) cap') (k + 1) (hqC (q.take (k + 1)))) ∧ Hid (Below w.heap.size w w')) := fun ad' cap' W w' hW hr hk' => by
        refine ⟨?_, (below_on HB.out hW).trans (keep_below hk' (fun j hj e => by have := ownsRow_ge HR.out e; omega) (Nat.le_trans HB.out.size hW.size))⟩
        show World.ownsRow _ _ _ _ _ _ _
        rw [HPL.out]; exact hr
      clear HR HB HPL HXS CL
      go_wp2
      refine wp_region_held_drew (S := (fun w' => w'.cell? ⟨wr.heap.size, 0, none⟩ = some (.string tk) ∧ w'.cell? ⟨wr.heap.size, 1, none⟩ = some (.string su) ∧ w'.cell? ⟨wr.heap.size, 2, none⟩ = some (.string ou) ∧ w'.cell? ⟨wr.heap.size, 3, none⟩ = some (.int .i64 at_))) (by kernel_rfl) ⟨y0, y1, y2, y3⟩ (fun hHeld => ?_)
      refine wpAnyH_take (i := 0) (v := ?vv1) rfl (by kernel_rfl) (by kernel_rfl) (by kernel_rfl) (fun _ _ _ h => h) (Or.inl ⟨by rfl, ?hy1⟩) (by assumption) ?rest1
      case hy1 => (intro w hSw; (try dsimp only at hSw); go_simp; first | done | with_reducible rfl)
      try simp only [Act.put, List.getElem_toArray, List.getElem_cons_succ, List.getElem_cons_zero, List.setIfInBounds_toArray, List.set_cons_zero, List.set_cons_succ]
      refine wpAnyH_take (i := 1) (v := ?vv2) rfl (by kernel_rfl) (by kernel_rfl) (by kernel_rfl) (fun _ _ _ h => h) (Or.inl ⟨by rfl, ?hy2⟩) (by assumption) ?rest2
      case hy2 => (intro w hSw; (try dsimp only at hSw); go_simp; first | done | with_reducible rfl)
      try simp only [Act.put, List.getElem_toArray, List.getElem_cons_succ, List.getElem_cons_zero, List.setIfInBounds_toArray, List.set_cons_zero, List.set_cons_succ]
      refine wpAnyH_take (i := 2) (v := ?vv3) rfl (by kernel_rfl) (by kernel_rfl) (by kernel_rfl) (fun _ _ _ h => h) (Or.inl ⟨by rfl, ?hy3⟩) (by assumption) ?rest3
      case hy3 => (intro w hSw; (try dsimp only at hSw); go_simp; first | done | with_reducible rfl)
      try simp only [Act.put, List.getElem_toArray, List.getElem_cons_succ, List.getElem_cons_zero, List.setIfInBounds_toArray, List.set_cons_zero, List.set_cons_succ]
      refine wpAnyH_take (i := 4) (v := ?vv4) rfl (by kernel_rfl) (by kernel_rfl) (by kernel_rfl) (fun _ _ _ h => h) (Or.inl ⟨by rfl, ?hy4⟩) (by assumption) ?rest4
      case hy4 => (intro w hSw; (try dsimp only at hSw); go_simp; first | done | with_reducible rfl)
      try simp only [Act.put, List.getElem_toArray, List.getElem_cons_succ, List.getElem_cons_zero, List.setIfInBounds_toArray, List.set_cons_zero, List.set_cons_succ]
      refine wpAnyH_take (i := 5) (v := ?vv5) rfl (by kernel_rfl) (by kernel_rfl) (by kernel_rfl) (fun _ _ _ h => h) (Or.inl ⟨by rfl, ?hy5⟩) (by assumption) ?rest5
      case hy5 => (intro w hSw; (try dsimp only at hSw); go_simp; first | done | with_reducible rfl)
      try simp only [Act.put, List.getElem_toArray, List.getElem_cons_succ, List.getElem_cons_zero, List.setIfInBounds_toArray, List.set_cons_zero, List.set_cons_succ]
      refine wpAnyH_take (i := 7) (v := ?vv6) rfl (by kernel_rfl) (by kernel_rfl) (by kernel_rfl) (fun _ _ _ h => h) (Or.inl ⟨by rfl, ?hy6⟩) (by assumption) ?rest6
      case hy6 => (intro w hSw; (try dsimp only at hSw); go_simp; first | done | with_reducible rfl)
      try simp only [Act.put, List.getElem_toArray, List.getElem_cons_succ, List.getElem_cons_zero, List.setIfInBounds_toArray, List.set_cons_zero, List.set_cons_succ]
      refine wpAnyH_take (i := 8) (v := ?vv7) rfl (by kernel_rfl) (by kernel_rfl) (by kernel_rfl) (fun _ _ _ h => h) (Or.inl ⟨by rfl, ?hy7⟩) (by assumption) ?rest7
      case hy7 => (intro w hSw; (try dsimp only at hSw); go_simp; first | done | with_reducible rfl)
      try simp only [Act.put, List.getElem_toArray, List.getElem_cons_succ, List.getElem_cons_zero, List.setIfInBounds_toArray, List.set_cons_zero, List.set_cons_succ]
      refine wpAnyH_take (i := 10) (v := ?vv8) rfl (by kernel_rfl) (by kernel_rfl) (by kernel_rfl) (fun _ _ _ h => h) (Or.inl ⟨by rfl, ?hy8⟩) (by assumption) ?rest8
      case hy8 => (intro w hSw; (try dsimp only at hSw); go_simp; first | done | with_reducible rfl)
      try simp only [Act.put, List.getElem_toArray, List.getElem_cons_succ, List.getElem_cons_zero, List.setIfInBounds_toArray, List.set_cons_zero, List.set_cons_succ]
      refine wpAnyH_take (i := 11) (v := ?vv9) rfl (by kernel_rfl) (by kernel_rfl) (by kernel_rfl) (fun _ _ _ h => h) (Or.inl ⟨by rfl, ?hy9⟩) (by assumption) ?rest9
      case hy9 => (intro w hSw; (try dsimp only at hSw); go_simp; first | done | with_reducible rfl)
      try simp only [Act.put, List.getElem_toArray, List.getElem_cons_succ, List.getElem_cons_zero, List.setIfInBounds_toArray, List.set_cons_zero, List.set_cons_succ]
      refine wpAnyH_ready (rs := [3]) (by kernel_rfl) (by simp) ?_
      refine AllReadyH.cons rfl (fun K hK => ?_) AllReadyH.nil
      go_simp
      refine (CL0.out _ BM.out.drew).mono ?_
      rintro e w1 ⟨rfl, ZCw1, Bw1⟩
      go_wp2_with fail
      refine hK.out _ _ ZCw1 (fun hHeld => ?_)
      clear hK K
      try simp only [Act.put, List.getElem_toArray, List.getElem_cons_succ, List.getElem_cons_zero, List.setIfInBounds_toArray, List.set_cons_zero, List.set_cons_succ]
      refine wpAnyH_ready (rs := [6]) (by kernel_rfl) (by simp) ?_
      refine AllReadyH.cons rfl (fun K hK => ?_) AllReadyH.nil
      go_simp
      refine (CL1.out _ Bw1.out).mono ?_
      rintro e w2 ⟨rfl, ZCw2, Bw2⟩
      go_wp2_with fail
      refine hK.out _ _ ZCw2 (fun hHeld => ?_)
      clear hK K
      try simp only [Act.put, List.getElem_toArray, List.getElem_cons_succ, List.getElem_cons_zero, List.setIfInBounds_toArray, List.set_cons_zero, List.set_cons_succ]
      refine wpAnyH_ready (rs := [9]) (by kernel_rfl) (by simp) ?_
      refine AllReadyH.cons rfl (fun K hK => ?_) AllReadyH.nil
      go_simp
      refine (CL2.out _ Bw2.out).mono ?_
      rintro e w3 ⟨rfl, ZCw3, Bw3⟩
      go_wp2_with fail
      refine hK.out _ _ ZCw3 (fun hHeld => ?_)
      clear hK K
      try simp only [Act.put, List.getElem_toArray, List.getElem_cons_succ, List.getElem_cons_zero, List.setIfInBounds_toArray, List.set_cons_zero, List.set_cons_succ]
      refine wpAnyH_take (i := 12) (v := ?vv10) rfl (by kernel_rfl) (by kernel_rfl) (by kernel_rfl) (fun _ _ _ h => h) (Or.inl ⟨by rfl, ?hy10⟩) (by assumption) ?rest10
      case hy10 => (intro w hSw; (try dsimp only at hSw); go_simp; first | done | with_reducible rfl)
      try simp only [Act.put, List.getElem_toArray, List.getElem_cons_succ, List.getElem_cons_zero, List.setIfInBounds_toArray, List.set_cons_zero, List.set_cons_succ]
      refine wpAnyH_ready (rs := [13]) (by kernel_rfl) (by simp) ?_
      refine AllReadyH.cons rfl (fun K hK => ?_) AllReadyH.nil
      go_simp
      have B4 := hid (Bw3.out.al (.cells #[.string tk, .string su, .string ou, .int .i64 at_] 31))
      refine hK.out _ _ (HCE.out _ B4.out) (fun hHeld => ?_)
      clear hK K
      try simp only [Act.put, List.getElem_toArray, List.getElem_cons_succ, List.getElem_cons_zero, List.setIfInBounds_toArray, List.set_cons_zero, List.set_cons_succ]
      refine wpAnyH_ready (rs := [14]) (by kernel_rfl) (by simp) ?_
      refine AllReadyH.cons rfl (fun K hK => ?_) AllReadyH.nil
      refine step_gapp (w0 := w3.alloc (.cells #[.string tk, .string su, .string ou, .int .i64 at_] 31)) (by rfl) _ _ elH (by rfl) w.heap.size (.slice ad1 k cp1) (.slice (some ⟨w3.heap.size, 0, none⟩) 1 1) (hqC (q.take k)) XS k 1 (k + 1) (by rfl) (Keep.refl _ _) (by rfl) (by rfl) (HGA.out _ Bw3.out.b) (HSZ.out _ Bw3.out.b) (HGX.out _) HX2.out HO1.out HB1.out HB2.out ?_
      intro ad' cap' w' hr' hk'
      have ZC5 := HC5.out _ _ B4.out hk'
      refine hK.out _ _ ZC5 (fun hHeld => ?_)
      clear hK K
      try simp only [Act.put, List.getElem_toArray, List.getElem_cons_succ, List.getElem_cons_zero, List.setIfInBounds_toArray, List.set_cons_zero, List.set_cons_succ]
      refine wpAnyH_take (i := 15) (v := ?vv11) rfl (by kernel_rfl) (by kernel_rfl) (by kernel_rfl) (fun _ _ _ h => h) (Or.inl ⟨by rfl, ?hy11⟩) (by assumption) ?rest11
      case hy11 => (intro w hSw; (try dsimp only at hSw); go_simp; first | done | with_reducible rfl)
      try simp only [Act.put, List.getElem_toArray, List.getElem_cons_succ, List.getElem_cons_zero, List.setIfInBounds_toArray, List.set_cons_zero, List.set_cons_succ]
      refine wpAnyH_done (by kernel_rfl) ?_ _
      obtain ⟨F1, F2⟩ := FIN.out _ _ _ _ B4.out.b hr' hk'
      clear hHeld ZC5 hr' hk' FIN HGA HGX HSZ HC5 B4 CL0 CL1 CL2 HCE d0 d1 d2 d3 y0 y1 y2 y3 ZCw1 ZCw2 ZCw3 Bw1 Bw2 Bw3 BM
      go_wp2
      exact ⟨⟨k + 1, _, _, HLT.out, rfl, by first | rw [hwk] | rfl | simp, F1, F2⟩, by (try rw [hwk]); have := HLT.out; simp [intOf]; omega⟩
    · have hke : k = q.length := by omega
      have hd : decide ((k : Int) < (q.length : Int)) = false := decide_eq_false (by omega)
      have hd2 : decide (k < q.length) = false := decide_eq_false hlt
      have HF : Hid (wr.ownsRow w.heap.size 31 4 (.slice ad1 k cp1) q.length (hqC q)) := by
        have := HR.out
        rw [hke, HZ.out] at this
        rw [hke]
        exact this
      have HKE := hid hke
      clear HC HTK HZ HR HL hke hlt hk HCL
      go_wp2
      go_ret
      refine ⟨ad1, cp1, ?_, ?_, HB.out⟩
      · rw [HKE.out]; rfl
      · have := HF.out; rw [HKE.out] at this; exact this
end Go.Proofs.Ytojiahdbgdgdcaa
