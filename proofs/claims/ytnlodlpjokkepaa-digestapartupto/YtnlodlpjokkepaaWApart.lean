/- The walk of the law DigestApart: whatever the purposes and the parts, it answers true. -/
import Derived.Test.YtnlodlpjokkepaaApartM
namespace Go.Proofs.Ytnlodlpjokkepaa
open Go.RowKit
set_option linter.unusedVariables false

/-- two cells of a block that lay there, and what lay there before, stay behind a call -/
theorem toList_beq (x y : ByteArray) : (x.toList == y.toList) = decide (x = y) := by
  rw [ByteArray.toList_eq, ByteArray.toList_eq]
  by_cases h : x = y
  · subst h; simp
  · rw [decide_eq_false h]
    simp only [beq_eq_false_iff_ne, ne_eq]
    intro e
    exact h (ByteArray.ext (Array.ext' e))
theorem keep2 {f : Nat} {args : Array Value} {w W : World} {n : Nat} {u0 u1 r : Value} (hB : Below w.heap.size w W) (h0 : W.cell? ⟨n, 0, none⟩ = some u0) (h1 : W.cell? ⟨n, 1, none⟩ = some u1)
    (h : Calls Try.prog f args W fun e w' => e = .returned r ∧ Below W.heap.size W w') :
    Calls Try.prog f args W fun e w' => e = .returned r ∧ w'.cell? ⟨n, 0, none⟩ = some u0 ∧ w'.cell? ⟨n, 1, none⟩ = some u1 ∧ Below w.heap.size w w' :=
  h.mono fun e w' ⟨he, hb⟩ => ⟨he, (hb.cell (p := ⟨n, 0, none⟩) (World.block_lt_of_cell? _ _ h0)).trans h0, (hb.cell (p := ⟨n, 1, none⟩) (World.block_lt_of_cell? _ _ h1)).trans h1, hB.trans (hb.mono hB.size)⟩

set_option maxRecDepth 100000 in
set_option maxHeartbeats 2000000 in
theorem digestApart_core (p q : UInt8) (v : Value) (xs : List ByteArray) (u : Value) (ys : List ByteArray) (w : World) (hv : Strs w v xs) (hx : room xs ≤ 10485760) (hu : Strs w u ys) (hy : room ys ≤ 10485760) :
    Calls Try.prog 8 #[.agg #[.int .u8 (p.toNat : Int), .int .u8 (q.toNat : Int)], v, u] w fun e w' => e = .returned (.bool true) ∧ Below w.heap.size w w' := by
  obtain ⟨ad, cap, hve, hc⟩ := hv.at
  obtain ⟨bd, dap, hue, hd⟩ := hu.at
  have hxl := room_len xs
  have hyl := room_len ys
  have hte := tld_len p xs
  have htf := tld_len q ys
  have hsa : (ByteArray.mk (tld p xs).toArray).size = (tld p xs).length := by show (tld p xs).toArray.size = _; simp
  have hsb : (ByteArray.mk (tld q ys).toArray).size = (tld q ys).length := by show (tld q ys).toArray.size = _; simp
  have T1 : Hid (∀ W, Below w.heap.size w W → W.cell? ⟨w.heap.size, 0, none⟩ = some (.int .u8 (p.toNat : Int)) → W.cell? ⟨w.heap.size, 1, none⟩ = some (.int .u8 (q.toNat : Int)) → _) := fun W hB h0 h1 => keep2 hB h0 h1 (told_any p v xs W (hv.below hB) (by omega))
  have T2 : Hid (∀ W, Below w.heap.size w W → W.cell? ⟨w.heap.size, 0, none⟩ = some (.int .u8 (p.toNat : Int)) → W.cell? ⟨w.heap.size, 1, none⟩ = some (.int .u8 (q.toNat : Int)) → _) := fun W hB h0 h1 => keep2 hB h0 h1 (told_any q u ys W (hu.below hB) (by omega))
  have G1 : Hid (∀ W, Below w.heap.size w W → W.cell? ⟨w.heap.size, 0, none⟩ = some (.int .u8 (p.toNat : Int)) → W.cell? ⟨w.heap.size, 1, none⟩ = some (.int .u8 (q.toNat : Int)) → _) := fun W hB h0 h1 => keep2 hB h0 h1 (tagged_any p v xs W (hv.below hB) (by omega))
  have G2 : Hid (∀ W, Below w.heap.size w W → W.cell? ⟨w.heap.size, 0, none⟩ = some (.int .u8 (p.toNat : Int)) → W.cell? ⟨w.heap.size, 1, none⟩ = some (.int .u8 (q.toNat : Int)) → _) := fun W hB h0 h1 => keep2 hB h0 h1 (tagged_any q u ys W (hu.below hB) (by omega))
  have S1 : Hid (∀ W, Below w.heap.size w W → W.cell? ⟨w.heap.size, 0, none⟩ = some (.int .u8 (p.toNat : Int)) → W.cell? ⟨w.heap.size, 1, none⟩ = some (.int .u8 (q.toNat : Int)) → _) := fun W hB h0 h1 => keep2 hB h0 h1 (sum_any ⟨(tld p xs).toArray⟩ W (by rw [hsa]; omega))
  have S2 : Hid (∀ W, Below w.heap.size w W → W.cell? ⟨w.heap.size, 0, none⟩ = some (.int .u8 (p.toNat : Int)) → W.cell? ⟨w.heap.size, 1, none⟩ = some (.int .u8 (q.toNat : Int)) → _) := fun W hB h0 h1 => keep2 hB h0 h1 (sum_any ⟨(tld q ys).toArray⟩ W (by rw [hsb]; omega))
  have AW : Hid (∀ W, Below w.heap.size w W → W.cell? ⟨w.heap.size, 0, none⟩ = some (.int .u8 (p.toNat : Int)) → W.cell? ⟨w.heap.size, 1, none⟩ = some (.int .u8 (q.toNat : Int)) → _) := fun W hB h0 h1 => keep2 hB h0 h1 (awake3 W)
  have HC := show Hid _ from hc
  have HD := show Hid _ from hd
  subst hve hue
  have HTI := show Hid _ from tld_inj p q xs ys hx hy
  clear hc hd hv hu hsa hsb hte htf
  generalize tld p xs = a at T1 S1 G1 HTI
  generalize tld q ys = b at T2 S2 G2 HTI
  generalize sha a = sa at G1 S1
  generalize sha b = sb at G2 S2
  have hAB := toList_beq ⟨a.toArray⟩ ⟨b.toArray⟩
  rw [show (decide ((⟨a.toArray⟩ : ByteArray) = ⟨b.toArray⟩)) = decide (p = q ∧ xs = ys) from (by rw [decide_eq_decide, ← HTI.out]; exact ⟨fun h => by simpa using h, fun h => by rw [h]⟩)] at hAB
  generalize ByteArray.mk a.toArray = A at T1 S1 hAB
  generalize ByteArray.mk b.toArray = B at T2 S2 hAB
  have HAB : Hid (_ = _) := hAB
  clear hAB HTI
  have k0 : (w.alloc (.cells #[.int .u8 (p.toNat : Int), .int .u8 (q.toNat : Int)] 40)).cell? ⟨w.heap.size, 0, none⟩ = some (.int .u8 (p.toNat : Int)) := by rw [cell_of_row _ _ _ _ _ _ (heap_alloc_new _ _)]; rfl
  have k1 : (w.alloc (.cells #[.int .u8 (p.toNat : Int), .int .u8 (q.toNat : Int)] 40)).cell? ⟨w.heap.size, 1, none⟩ = some (.int .u8 (q.toNat : Int)) := by rw [cell_of_row _ _ _ _ _ _ (heap_alloc_new _ _)]; rfl
  have kb : Below w.heap.size w (w.alloc (.cells #[.int .u8 (p.toNat : Int), .int .u8 (q.toNat : Int)] 40)).drew := below_drewN ((Below.refl _ _).alloc (Nat.le_refl _) _) 1
  have k0d : (w.alloc (.cells #[.int .u8 (p.toNat : Int), .int .u8 (q.toNat : Int)] 40)).drew.cell? ⟨w.heap.size, 0, none⟩ = some (.int .u8 (p.toNat : Int)) := k0
  have k1d : (w.alloc (.cells #[.int .u8 (p.toNat : Int), .int .u8 (q.toNat : Int)] 40)).drew.cell? ⟨w.heap.size, 1, none⟩ = some (.int .u8 (q.toNat : Int)) := k1
  go_enter Try.func8, Try.ntmps8
  go_wp2
  go_region_held3 (fun w' => w'.cell? ⟨w.heap.size, 0, none⟩ = some (.int .u8 (p.toNat : Int)) ∧ w'.cell? ⟨w.heap.size, 1, none⟩ = some (.int .u8 (q.toNat : Int))) (first | (refine ⟨?_, ?_⟩ <;> with_reducible assumption) | exact ⟨k0, k1⟩) (first | (go_at_call 21; with_reducible (refine (T1.out _ ?_ ?_ ?_).mono ?_); with_reducible assumption; with_reducible assumption; with_reducible assumption; rintro e w1 ⟨rfl, m0, m1, mb⟩) | (go_at_call 21; with_reducible (refine (T2.out _ ?_ ?_ ?_).mono ?_); with_reducible assumption; with_reducible assumption; with_reducible assumption; rintro e w2 ⟨rfl, n0, n1, nb⟩))
  clear T1 T2 k0 k1 kb k0d k1d
  by_cases hp : p = q
  · have hp2 : (p.toNat : Int) = (q.toNat : Int) := by rw [hp]
    by_cases hl : xs.length = ys.length
    · have hl2 : (xs.length : Int) = (ys.length : Int) := by omega
      have HZ : Hid (sm p q xs ys 0 = true) := by show _ = _; rw [sm_zero]; simp [hp, hl]
      clear hp hl
      go_wp2
      clear hp2 hl2
      have hAB := HAB.out
      go_loopw [9, 10] (fun f i wr => ∃ (k : Nat) (fl : Bool), k ≤ xs.length ∧ f = .bool fl ∧ Hid (fl = sm p q xs ys k) ∧ i = .int .i64 k ∧ Hid (wr.cell? ⟨w.heap.size, 0, none⟩ = some (.int .u8 (p.toNat : Int))) ∧ Hid (wr.cell? ⟨w.heap.size, 1, none⟩ = some (.int .u8 (q.toNat : Int))) ∧ Hid (Below w.heap.size w wr)) (fun _ i _ => xs.length - (intOf i).toNat)
      case atStart => exact ⟨0, _, by omega, rfl, HZ.out.symm, rfl, n0, n1, nb⟩
      case round =>
        clear HZ n0 n1 nb
        obtain ⟨k, fl, hk, rfl, HFL, rfl, N0, N1, NB⟩ := hrel
        have hf : fl = sm p q xs ys k := HFL.out
        clear HFL
        by_cases hlt : k < xs.length
        · cases hfl : fl with
          | true =>
            subst hfl
            have hsm := sm_succ p q xs ys k hf.symm hlt
            have hlt2 : k < ys.length := by have h := of_decide_eq_true hf.symm; omega
            obtain ⟨b1, o1, had, hb1, hc1⟩ := HC.out k hlt
            obtain ⟨b2, o2, hbd, hb2, hc2⟩ := HD.out k hlt2
            have K1 := (NB.out.cell (p := ⟨b1, o1 + k, none⟩) hb1).trans hc1
            have K2 := (NB.out.cell (p := ⟨b2, o2 + k, none⟩) hb2).trans hc2
            generalize xs.getD k ⟨#[]⟩ = X at K1 hsm hc1
            generalize ys.getD k ⟨#[]⟩ = Y at K2 hsm hc2
            have hxy := toList_beq X Y
            rw [← hsm] at hxy
            have HXY : Hid (_ = _) := hxy
            have hk0 : (0 : Int) ≤ (k : Int) := by omega
            have hk1 : (k : Int) < (xs.length : Int) := by omega
            have hk2 : (k : Int) < (ys.length : Int) := by omega
            clear hc1 hc2 hsm hxy hAB hf G1 G2 S1 S2 AW HC HD
            subst had hbd
            go_wp2
            go_region_held3 (fun w' => w'.cell? ⟨b1, o1 + k, none⟩ = some (.string X) ∧ w'.cell? ⟨b2, o2 + k, none⟩ = some (.string Y)) (first | exact ⟨K1, K2⟩ | go_keep) (fail)
            all_goals
              go_wp2
              exact ⟨⟨k + 1, _, by omega, rfl, HXY, by go_num, N0, N1, NB.out.drew⟩, by simp [intOf]; omega⟩
          | false =>
            subst hfl
            have hk1 : (k : Int) < (xs.length : Int) := by omega
            have hall := sm_all p q xs ys k (.inr hf.symm)
            rw [hall] at hf
            rw [← hf] at hAB
            clear hf
            clear hall HC HD HAB
            have n0 := N0.out
            have n0d : wr.drew.cell? ⟨w.heap.size, 0, none⟩ = some (.int .u8 (p.toNat : Int)) := n0
            have n1d : wr.drew.cell? ⟨w.heap.size, 1, none⟩ = some (.int .u8 (q.toNat : Int)) := N1.out
            have nbd : Below w.heap.size w wr.drew := NB.out.drew
            have n1 := N1.out
            have nb := NB.out
            clear N0 N1 NB
            go_wp2
            go_region_held3 (fun w' => w'.cell? ⟨w.heap.size, 0, none⟩ = some (.int .u8 (p.toNat : Int)) ∧ w'.cell? ⟨w.heap.size, 1, none⟩ = some (.int .u8 (q.toNat : Int))) (first | (refine ⟨?_, ?_⟩ <;> with_reducible assumption)) (first | (go_at_call 9; with_reducible (refine (AW.out _ ?_ ?_ ?_).mono ?_); with_reducible assumption; with_reducible assumption; with_reducible assumption; rintro e w3 ⟨rfl, m0, m1, mb⟩) | (go_at_call 12; with_reducible (refine (G1.out _ ?_ ?_ ?_).mono ?_); with_reducible assumption; with_reducible assumption; with_reducible assumption; rintro e w4 ⟨rfl, m0, m1, mb⟩) | (go_at_call 12; with_reducible (refine (G2.out _ ?_ ?_ ?_).mono ?_); with_reducible assumption; with_reducible assumption; with_reducible assumption; rintro e w5 ⟨rfl, m0, m1, mb⟩) | (go_at_call 10; with_reducible (refine (S1.out _ ?_ ?_ ?_).mono ?_); with_reducible assumption; with_reducible assumption; with_reducible assumption; rintro e w6 ⟨rfl, m0, m1, mb⟩) | (go_at_call 10; with_reducible (refine (S2.out _ ?_ ?_ ?_).mono ?_); with_reducible assumption; with_reducible assumption; with_reducible assumption; rintro e w7 ⟨rfl, m0, m1, mb⟩))
            all_goals
              go_wp2
              go_ret
              exact ⟨rfl, by assumption⟩
        · have hd : decide ((k : Int) < (xs.length : Int)) = false := decide_eq_false (by omega)
          have hd2 : decide (k < xs.length) = false := decide_eq_false hlt
          have hall := sm_all p q xs ys k (.inl (by omega))
          rw [hall] at hf
          rw [← hf] at hAB
          clear hf
          clear hall HC HD HAB
          have n0 := N0.out
          have n0d : wr.drew.cell? ⟨w.heap.size, 0, none⟩ = some (.int .u8 (p.toNat : Int)) := n0
          have n1d : wr.drew.cell? ⟨w.heap.size, 1, none⟩ = some (.int .u8 (q.toNat : Int)) := N1.out
          have nbd : Below w.heap.size w wr.drew := NB.out.drew
          have n1 := N1.out
          have nb := NB.out
          clear N0 N1 NB
          cases fl
          all_goals
            go_wp2
            go_region_held3 (fun w' => w'.cell? ⟨w.heap.size, 0, none⟩ = some (.int .u8 (p.toNat : Int)) ∧ w'.cell? ⟨w.heap.size, 1, none⟩ = some (.int .u8 (q.toNat : Int))) (first | (refine ⟨?_, ?_⟩ <;> with_reducible assumption)) (first | (go_at_call 9; with_reducible (refine (AW.out _ ?_ ?_ ?_).mono ?_); with_reducible assumption; with_reducible assumption; with_reducible assumption; rintro e w3 ⟨rfl, m0, m1, mb⟩) | (go_at_call 12; with_reducible (refine (G1.out _ ?_ ?_ ?_).mono ?_); with_reducible assumption; with_reducible assumption; with_reducible assumption; rintro e w4 ⟨rfl, m0, m1, mb⟩) | (go_at_call 12; with_reducible (refine (G2.out _ ?_ ?_ ?_).mono ?_); with_reducible assumption; with_reducible assumption; with_reducible assumption; rintro e w5 ⟨rfl, m0, m1, mb⟩) | (go_at_call 10; with_reducible (refine (S1.out _ ?_ ?_ ?_).mono ?_); with_reducible assumption; with_reducible assumption; with_reducible assumption; rintro e w6 ⟨rfl, m0, m1, mb⟩) | (go_at_call 10; with_reducible (refine (S2.out _ ?_ ?_ ?_).mono ?_); with_reducible assumption; with_reducible assumption; with_reducible assumption; rintro e w7 ⟨rfl, m0, m1, mb⟩))
            all_goals
              go_wp2
              go_ret
              exact ⟨rfl, by assumption⟩
    · have hl2 : ¬ (xs.length : Int) = (ys.length : Int) := by omega
      have HZ : Hid (((xs.length : Int) == (ys.length : Int)) = sm p q xs ys 0) := by show _ = _; rw [sm_zero, beq_eq_false_iff_ne.2 hl2]; simp [hl]
      clear hp hl
      go_wp2
      clear hp2 hl2
      have hAB := HAB.out
      go_loopw [9, 10] (fun f i wr => ∃ (k : Nat) (fl : Bool), k ≤ xs.length ∧ f = .bool fl ∧ Hid (fl = sm p q xs ys k) ∧ i = .int .i64 k ∧ Hid (wr.cell? ⟨w.heap.size, 0, none⟩ = some (.int .u8 (p.toNat : Int))) ∧ Hid (wr.cell? ⟨w.heap.size, 1, none⟩ = some (.int .u8 (q.toNat : Int))) ∧ Hid (Below w.heap.size w wr)) (fun _ i _ => xs.length - (intOf i).toNat)
      case atStart => exact ⟨0, _, by omega, rfl, HZ.out, rfl, n0, n1, nb⟩
      case round =>
        clear HZ n0 n1 nb
        obtain ⟨k, fl, hk, rfl, HFL, rfl, N0, N1, NB⟩ := hrel
        have hf : fl = sm p q xs ys k := HFL.out
        clear HFL
        by_cases hlt : k < xs.length
        · cases hfl : fl with
          | true =>
            subst hfl
            have hsm := sm_succ p q xs ys k hf.symm hlt
            have hlt2 : k < ys.length := by have h := of_decide_eq_true hf.symm; omega
            obtain ⟨b1, o1, had, hb1, hc1⟩ := HC.out k hlt
            obtain ⟨b2, o2, hbd, hb2, hc2⟩ := HD.out k hlt2
            have K1 := (NB.out.cell (p := ⟨b1, o1 + k, none⟩) hb1).trans hc1
            have K2 := (NB.out.cell (p := ⟨b2, o2 + k, none⟩) hb2).trans hc2
            generalize xs.getD k ⟨#[]⟩ = X at K1 hsm hc1
            generalize ys.getD k ⟨#[]⟩ = Y at K2 hsm hc2
            have hxy := toList_beq X Y
            rw [← hsm] at hxy
            have HXY : Hid (_ = _) := hxy
            have hk0 : (0 : Int) ≤ (k : Int) := by omega
            have hk1 : (k : Int) < (xs.length : Int) := by omega
            have hk2 : (k : Int) < (ys.length : Int) := by omega
            clear hc1 hc2 hsm hxy hAB hf G1 G2 S1 S2 AW HC HD
            subst had hbd
            go_wp2
            go_region_held3 (fun w' => w'.cell? ⟨b1, o1 + k, none⟩ = some (.string X) ∧ w'.cell? ⟨b2, o2 + k, none⟩ = some (.string Y)) (first | exact ⟨K1, K2⟩ | go_keep) (fail)
            all_goals
              go_wp2
              exact ⟨⟨k + 1, _, by omega, rfl, HXY, by go_num, N0, N1, NB.out.drew⟩, by simp [intOf]; omega⟩
          | false =>
            subst hfl
            have hk1 : (k : Int) < (xs.length : Int) := by omega
            have hall := sm_all p q xs ys k (.inr hf.symm)
            rw [hall] at hf
            rw [← hf] at hAB
            clear hf
            clear hall HC HD HAB
            have n0 := N0.out
            have n0d : wr.drew.cell? ⟨w.heap.size, 0, none⟩ = some (.int .u8 (p.toNat : Int)) := n0
            have n1d : wr.drew.cell? ⟨w.heap.size, 1, none⟩ = some (.int .u8 (q.toNat : Int)) := N1.out
            have nbd : Below w.heap.size w wr.drew := NB.out.drew
            have n1 := N1.out
            have nb := NB.out
            clear N0 N1 NB
            go_wp2
            go_region_held3 (fun w' => w'.cell? ⟨w.heap.size, 0, none⟩ = some (.int .u8 (p.toNat : Int)) ∧ w'.cell? ⟨w.heap.size, 1, none⟩ = some (.int .u8 (q.toNat : Int))) (first | (refine ⟨?_, ?_⟩ <;> with_reducible assumption)) (first | (go_at_call 9; with_reducible (refine (AW.out _ ?_ ?_ ?_).mono ?_); with_reducible assumption; with_reducible assumption; with_reducible assumption; rintro e w3 ⟨rfl, m0, m1, mb⟩) | (go_at_call 12; with_reducible (refine (G1.out _ ?_ ?_ ?_).mono ?_); with_reducible assumption; with_reducible assumption; with_reducible assumption; rintro e w4 ⟨rfl, m0, m1, mb⟩) | (go_at_call 12; with_reducible (refine (G2.out _ ?_ ?_ ?_).mono ?_); with_reducible assumption; with_reducible assumption; with_reducible assumption; rintro e w5 ⟨rfl, m0, m1, mb⟩) | (go_at_call 10; with_reducible (refine (S1.out _ ?_ ?_ ?_).mono ?_); with_reducible assumption; with_reducible assumption; with_reducible assumption; rintro e w6 ⟨rfl, m0, m1, mb⟩) | (go_at_call 10; with_reducible (refine (S2.out _ ?_ ?_ ?_).mono ?_); with_reducible assumption; with_reducible assumption; with_reducible assumption; rintro e w7 ⟨rfl, m0, m1, mb⟩))
            all_goals
              go_wp2
              go_ret
              exact ⟨rfl, by assumption⟩
        · have hd : decide ((k : Int) < (xs.length : Int)) = false := decide_eq_false (by omega)
          have hd2 : decide (k < xs.length) = false := decide_eq_false hlt
          have hall := sm_all p q xs ys k (.inl (by omega))
          rw [hall] at hf
          rw [← hf] at hAB
          clear hf
          clear hall HC HD HAB
          have n0 := N0.out
          have n0d : wr.drew.cell? ⟨w.heap.size, 0, none⟩ = some (.int .u8 (p.toNat : Int)) := n0
          have n1d : wr.drew.cell? ⟨w.heap.size, 1, none⟩ = some (.int .u8 (q.toNat : Int)) := N1.out
          have nbd : Below w.heap.size w wr.drew := NB.out.drew
          have n1 := N1.out
          have nb := NB.out
          clear N0 N1 NB
          cases fl
          all_goals
            go_wp2
            go_region_held3 (fun w' => w'.cell? ⟨w.heap.size, 0, none⟩ = some (.int .u8 (p.toNat : Int)) ∧ w'.cell? ⟨w.heap.size, 1, none⟩ = some (.int .u8 (q.toNat : Int))) (first | (refine ⟨?_, ?_⟩ <;> with_reducible assumption)) (first | (go_at_call 9; with_reducible (refine (AW.out _ ?_ ?_ ?_).mono ?_); with_reducible assumption; with_reducible assumption; with_reducible assumption; rintro e w3 ⟨rfl, m0, m1, mb⟩) | (go_at_call 12; with_reducible (refine (G1.out _ ?_ ?_ ?_).mono ?_); with_reducible assumption; with_reducible assumption; with_reducible assumption; rintro e w4 ⟨rfl, m0, m1, mb⟩) | (go_at_call 12; with_reducible (refine (G2.out _ ?_ ?_ ?_).mono ?_); with_reducible assumption; with_reducible assumption; with_reducible assumption; rintro e w5 ⟨rfl, m0, m1, mb⟩) | (go_at_call 10; with_reducible (refine (S1.out _ ?_ ?_ ?_).mono ?_); with_reducible assumption; with_reducible assumption; with_reducible assumption; rintro e w6 ⟨rfl, m0, m1, mb⟩) | (go_at_call 10; with_reducible (refine (S2.out _ ?_ ?_ ?_).mono ?_); with_reducible assumption; with_reducible assumption; with_reducible assumption; rintro e w7 ⟨rfl, m0, m1, mb⟩))
            all_goals
              go_wp2
              go_ret
              exact ⟨rfl, by assumption⟩
  · have hp2 : ¬ ((p.toNat : Int) = (q.toNat : Int)) := fun h => hp (UInt8.toNat_inj.1 (by omega))
    have HZ : Hid (sm p q xs ys 0 = false) := by show _ = _; rw [sm_zero]; simp [hp]
    clear hp
    go_wp2
    clear hp2
    have hAB := HAB.out
    go_loopw [9, 10] (fun f i wr => ∃ (k : Nat) (fl : Bool), k ≤ xs.length ∧ f = .bool fl ∧ Hid (fl = sm p q xs ys k) ∧ i = .int .i64 k ∧ Hid (wr.cell? ⟨w.heap.size, 0, none⟩ = some (.int .u8 (p.toNat : Int))) ∧ Hid (wr.cell? ⟨w.heap.size, 1, none⟩ = some (.int .u8 (q.toNat : Int))) ∧ Hid (Below w.heap.size w wr)) (fun _ i _ => xs.length - (intOf i).toNat)
    case atStart => exact ⟨0, _, by omega, rfl, HZ.out.symm, rfl, n0, n1, nb⟩
    case round =>
      clear HZ n0 n1 nb
      obtain ⟨k, fl, hk, rfl, HFL, rfl, N0, N1, NB⟩ := hrel
      have hf : fl = sm p q xs ys k := HFL.out
      clear HFL
      by_cases hlt : k < xs.length
      · cases hfl : fl with
        | true =>
          subst hfl
          have hsm := sm_succ p q xs ys k hf.symm hlt
          have hlt2 : k < ys.length := by have h := of_decide_eq_true hf.symm; omega
          obtain ⟨b1, o1, had, hb1, hc1⟩ := HC.out k hlt
          obtain ⟨b2, o2, hbd, hb2, hc2⟩ := HD.out k hlt2
          have K1 := (NB.out.cell (p := ⟨b1, o1 + k, none⟩) hb1).trans hc1
          have K2 := (NB.out.cell (p := ⟨b2, o2 + k, none⟩) hb2).trans hc2
          generalize xs.getD k ⟨#[]⟩ = X at K1 hsm hc1
          generalize ys.getD k ⟨#[]⟩ = Y at K2 hsm hc2
          have hxy := toList_beq X Y
          rw [← hsm] at hxy
          have HXY : Hid (_ = _) := hxy
          have hk0 : (0 : Int) ≤ (k : Int) := by omega
          have hk1 : (k : Int) < (xs.length : Int) := by omega
          have hk2 : (k : Int) < (ys.length : Int) := by omega
          clear hc1 hc2 hsm hxy hAB hf G1 G2 S1 S2 AW HC HD
          subst had hbd
          go_wp2
          go_region_held3 (fun w' => w'.cell? ⟨b1, o1 + k, none⟩ = some (.string X) ∧ w'.cell? ⟨b2, o2 + k, none⟩ = some (.string Y)) (first | exact ⟨K1, K2⟩ | go_keep) (fail)
          all_goals
            go_wp2
            exact ⟨⟨k + 1, _, by omega, rfl, HXY, by go_num, N0, N1, NB.out.drew⟩, by simp [intOf]; omega⟩
        | false =>
          subst hfl
          have hk1 : (k : Int) < (xs.length : Int) := by omega
          have hall := sm_all p q xs ys k (.inr hf.symm)
          rw [hall] at hf
          rw [← hf] at hAB
          clear hf
          clear hall HC HD HAB
          have n0 := N0.out
          have n0d : wr.drew.cell? ⟨w.heap.size, 0, none⟩ = some (.int .u8 (p.toNat : Int)) := n0
          have n1d : wr.drew.cell? ⟨w.heap.size, 1, none⟩ = some (.int .u8 (q.toNat : Int)) := N1.out
          have nbd : Below w.heap.size w wr.drew := NB.out.drew
          have n1 := N1.out
          have nb := NB.out
          clear N0 N1 NB
          go_wp2
          go_region_held3 (fun w' => w'.cell? ⟨w.heap.size, 0, none⟩ = some (.int .u8 (p.toNat : Int)) ∧ w'.cell? ⟨w.heap.size, 1, none⟩ = some (.int .u8 (q.toNat : Int))) (first | (refine ⟨?_, ?_⟩ <;> with_reducible assumption)) (first | (go_at_call 9; with_reducible (refine (AW.out _ ?_ ?_ ?_).mono ?_); with_reducible assumption; with_reducible assumption; with_reducible assumption; rintro e w3 ⟨rfl, m0, m1, mb⟩) | (go_at_call 12; with_reducible (refine (G1.out _ ?_ ?_ ?_).mono ?_); with_reducible assumption; with_reducible assumption; with_reducible assumption; rintro e w4 ⟨rfl, m0, m1, mb⟩) | (go_at_call 12; with_reducible (refine (G2.out _ ?_ ?_ ?_).mono ?_); with_reducible assumption; with_reducible assumption; with_reducible assumption; rintro e w5 ⟨rfl, m0, m1, mb⟩) | (go_at_call 10; with_reducible (refine (S1.out _ ?_ ?_ ?_).mono ?_); with_reducible assumption; with_reducible assumption; with_reducible assumption; rintro e w6 ⟨rfl, m0, m1, mb⟩) | (go_at_call 10; with_reducible (refine (S2.out _ ?_ ?_ ?_).mono ?_); with_reducible assumption; with_reducible assumption; with_reducible assumption; rintro e w7 ⟨rfl, m0, m1, mb⟩))
          all_goals
            go_wp2
            go_ret
            exact ⟨rfl, by assumption⟩
      · have hd : decide ((k : Int) < (xs.length : Int)) = false := decide_eq_false (by omega)
        have hd2 : decide (k < xs.length) = false := decide_eq_false hlt
        have hall := sm_all p q xs ys k (.inl (by omega))
        rw [hall] at hf
        rw [← hf] at hAB
        clear hf
        clear hall HC HD HAB
        have n0 := N0.out
        have n0d : wr.drew.cell? ⟨w.heap.size, 0, none⟩ = some (.int .u8 (p.toNat : Int)) := n0
        have n1d : wr.drew.cell? ⟨w.heap.size, 1, none⟩ = some (.int .u8 (q.toNat : Int)) := N1.out
        have nbd : Below w.heap.size w wr.drew := NB.out.drew
        have n1 := N1.out
        have nb := NB.out
        clear N0 N1 NB
        cases fl
        all_goals
          go_wp2
          go_region_held3 (fun w' => w'.cell? ⟨w.heap.size, 0, none⟩ = some (.int .u8 (p.toNat : Int)) ∧ w'.cell? ⟨w.heap.size, 1, none⟩ = some (.int .u8 (q.toNat : Int))) (first | (refine ⟨?_, ?_⟩ <;> with_reducible assumption)) (first | (go_at_call 9; with_reducible (refine (AW.out _ ?_ ?_ ?_).mono ?_); with_reducible assumption; with_reducible assumption; with_reducible assumption; rintro e w3 ⟨rfl, m0, m1, mb⟩) | (go_at_call 12; with_reducible (refine (G1.out _ ?_ ?_ ?_).mono ?_); with_reducible assumption; with_reducible assumption; with_reducible assumption; rintro e w4 ⟨rfl, m0, m1, mb⟩) | (go_at_call 12; with_reducible (refine (G2.out _ ?_ ?_ ?_).mono ?_); with_reducible assumption; with_reducible assumption; with_reducible assumption; rintro e w5 ⟨rfl, m0, m1, mb⟩) | (go_at_call 10; with_reducible (refine (S1.out _ ?_ ?_ ?_).mono ?_); with_reducible assumption; with_reducible assumption; with_reducible assumption; rintro e w6 ⟨rfl, m0, m1, mb⟩) | (go_at_call 10; with_reducible (refine (S2.out _ ?_ ?_ ?_).mono ?_); with_reducible assumption; with_reducible assumption; with_reducible assumption; rintro e w7 ⟨rfl, m0, m1, mb⟩))
          all_goals
            go_wp2
            go_ret
            exact ⟨rfl, by assumption⟩
end Go.Proofs.Ytnlodlpjokkepaa
