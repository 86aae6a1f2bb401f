/- The walk of Unhex. -/
import Derived.Test.YtnlodlpjokkepaaHexW
namespace Go.Proofs.Ytnlodlpjokkepaa
open Go.RowKit
set_option linter.unusedVariables false

theorem ret_half {i j : Int} (h : i = j) : Ending.returned (.int .i64 i) = .returned (.int .i64 j) := by rw [h]
set_option maxHeartbeats 1000000 in
theorem half_any (c : UInt8) (w : World) : Calls Try.prog 28 #[.int .u8 (c.toNat : Int)] w fun e w' => e = .returned (.int .i64 (halfN c.toNat)) ∧ w' = w := by
  have hc := UInt8.toNat_lt c
  generalize c.toNat = n at hc
  by_cases h1 : 48 ≤ n ∧ n ≤ 57
  · have e : halfN n = (n : Int) - 48 := by unfold halfN; rw [if_pos h1]
    obtain ⟨h2, h3⟩ := h1
    have h4 : (48 : Int) ≤ (n : Int) := by omega
    have h5 : (n : Int) ≤ 57 := by omega
    rw [e]
    clear e
    go_enter Try.func28, Try.ntmps28
    go_wp2
    go_ret
    exact ⟨ret_half (by go_num), rfl⟩
  · by_cases h6 : 97 ≤ n ∧ n ≤ 102
    · have e : halfN n = (n : Int) - 87 := by unfold halfN; rw [if_neg h1, if_pos h6]
      obtain ⟨h2, h3⟩ := h6
      have h4 : (48 : Int) ≤ (n : Int) := by omega
      have h5 : ¬ (n : Int) ≤ 57 := by omega
      have h7 : (97 : Int) ≤ (n : Int) := by omega
      have h8 : (n : Int) ≤ 102 := by omega
      rw [e]
      clear e h1
      go_enter Try.func28, Try.ntmps28
      go_wp2
      go_ret
      exact ⟨ret_half (by go_num), rfl⟩
    · have e : halfN n = -1 := by unfold halfN; rw [if_neg h1, if_neg h6]
      rw [e]
      clear e
      by_cases h2 : 48 ≤ n
      · have h4 : (48 : Int) ≤ (n : Int) := by omega
        have h5 : ¬ (n : Int) ≤ 57 := by omega
        by_cases h3 : 97 ≤ n
        · have h7 : (97 : Int) ≤ (n : Int) := by omega
          have h8 : ¬ (n : Int) ≤ 102 := by omega
          clear h1 h6
          go_enter Try.func28, Try.ntmps28
          go_wp2
          go_ret
          exact ⟨rfl, rfl⟩
        · have h7 : ¬ (97 : Int) ≤ (n : Int) := by omega
          clear h1 h6
          go_enter Try.func28, Try.ntmps28
          go_wp2
          go_ret
          exact ⟨rfl, rfl⟩
      · have h4 : ¬ (48 : Int) ≤ (n : Int) := by omega
        have h7 : ¬ (97 : Int) ≤ (n : Int) := by omega
        clear h1 h6
        go_enter Try.func28, Try.ntmps28
        go_wp2
        go_ret
        exact ⟨rfl, rfl⟩

theorem or16 (p q : Nat) (hp : p < 16) (hq : q < 16) : bits .or .i64 ((p : Int) * 16) (q : Int) = (p : Int) * 16 + (q : Int) := by
  have : ∀ (a b : Fin 16), bits .or .i64 (((a.val : Nat) : Int) * 16) ((b.val : Nat) : Int) = ((a.val : Nat) : Int) * 16 + ((b.val : Nat) : Int) := by decide +kernel
  exact this ⟨p, hp⟩ ⟨q, hq⟩
/-- the next two signs -/
theorem drop_two (s : ByteArray) (k : Nat) (h : 2 * k + 1 < s.size) : ∃ a b : UInt8, (∀ h, s[(2 * (k : Int)).toNat]'h = a) ∧ (∀ h, s[(2 * (k : Int) + 1).toNat]'h = b) ∧ s.data.toList.drop (2 * k) = a :: b :: s.data.toList.drop (2 * (k + 1)) := by
  refine ⟨s[2 * k], s[2 * k + 1], fun _ => by congr, fun _ => by congr, ?_⟩
  · rw [List.drop_eq_getElem_cons (by simp; omega), List.drop_eq_getElem_cons (by simp; omega)]
    rfl

set_option maxRecDepth 100000 in
set_option maxHeartbeats 1000000 in
theorem unhex_any (s : ByteArray) (w : World) (hs : s.size ≤ 140737488355328) (x : List UInt8) (er : Nat) (hx : unh s.data.toList [] = (x, er)) :
    Calls Try.prog 17 #[.string s] w fun e w' => e = .returned (.tuple #[.string ⟨x.toArray⟩, .int .i64 er]) ∧ Below w.heap.size w w' := by
  by_cases hpar : s.size % 2 = 1
  · have h := unh_odd _ s.data.toList [] (Nat.le_refl _) (by simpa using hpar)
    rw [h] at hx
    cases hx
    have hq : ¬ ((s.size : Int) % 2 = 0) := by omega
    clear h
    go_enter Try.func17, Try.ntmps17
    go_wp2
    go_ret2
    exact ⟨rfl, Below.refl _ _⟩
  · obtain ⟨m, hm⟩ : ∃ m, s.size = 2 * m := ⟨s.size / 2, by omega⟩
    have hq : (s.size : Int) % 2 = 0 := by omega
    have hd : (s.size : Int) / 2 = (m : Int) := by omega
    obtain ⟨M, hmk, hb0⟩ := bsl_make m (by omega)
    have HB0 : Hid (BSl (w.alloc (.cells M 5)) w.heap.size (.slice (some ⟨w.heap.size, 0, none⟩) 0 m) []) := hb0 w w.heap.size (Nat.le_refl _)
    have HE0 : Hid (Below w.heap.size w (w.alloc (.cells M 5))) := (Below.refl _ _).alloc (Nat.le_refl _) _
    have HX : Hid (unh (s.data.toList.drop 0) [] = (x, er)) := hx
    clear hb0 hpar hx
    go_enter Try.func17, Try.ntmps17
    go_wp2
    go_loopw [4, 19] (fun v i wr => ∃ (k : Nat) (L : List UInt8), k ≤ m ∧ i = .int .i64 k ∧ L.length = k ∧ Hid (BSl wr w.heap.size v L) ∧ Hid (Below w.heap.size w wr) ∧ Hid (unh (s.data.toList.drop (2 * k)) L = (x, er))) (fun _ i _ => m - (intOf i).toNat)
    case atStart => exact ⟨0, [], by omega, rfl, rfl, HB0, HE0, HX⟩
    case round =>
      clear HB0 HE0 hmk HX
      obtain ⟨k, L, hk, rfl, hL, HB, HE, HX⟩ := hrel
      by_cases hlt : k < m
      · have hk1 : (k : Int) < (m : Int) := by omega
        obtain ⟨a, b, ha, hb, HD⟩ := drop_two s k (by omega)
        have c1 : (0 : Int) ≤ 2 * (k : Int) := by omega
        have c2 : 2 * (k : Int) < (s.size : Int) := by omega
        have c3 : (0 : Int) ≤ 2 * (k : Int) + 1 := by omega
        have c4 : 2 * (k : Int) + 1 < (s.size : Int) := by omega
        have hsm : m ≤ 70368744177664 := by omega
        have c7 : IntKind.i64.wrap (2 * (k : Int)) = 2 * (k : Int) := by rw [IntKind.wrap_i64]; omega
        have c8 : IntKind.i64.wrap (2 * (k : Int) + 1) = 2 * (k : Int) + 1 := by rw [IntKind.wrap_i64]; omega
        have c5 : (2 * (k : Int)).toNat < s.size := by omega
        have c6 : (2 * (k : Int) + 1).toNat < s.size := by omega
        have ea : s[(2 * (k : Int)).toNat]'c5 = a := ha _
        have eb : s[(2 * (k : Int) + 1).toNat]'c6 = b := hb _
        rw [HD] at HX
        clear ha hb hm hq hd
        have HA := show Hid _ from fun W => half_any a W
        have HBb := show Hid _ from fun W => half_any b W
        have hla := half_lt a.toNat
        have hlb := half_lt b.toNat
        have HX := show Hid (_ = _) from HX.out
        unfold Hid at HX
        rw [unh] at HX
        clear HD
        generalize halfN a.toNat = p at HA HX hla
        generalize halfN b.toNat = q at HBb HX hlb
        by_cases hp : p < 0
        · rw [if_pos (Or.inl hp)] at HX
          cases HX
          clear HB
          go_wp2
          go_region_held3 (fun w' => True) (trivial) (first | (go_at_call 28; with_reducible (refine (HA.out _).mono ?_); rintro e w1 ⟨rfl, rfl⟩) | (go_at_call 28; with_reducible (refine (HBb.out _).mono ?_); rintro e w2 ⟨rfl, rfl⟩))
          all_goals
            go_wp2
            go_ret2
            first | exact ⟨rfl, HE.out⟩ | exact ⟨rfl, HE.out.drew⟩
        · by_cases hq2 : q < 0
          · rw [if_pos (Or.inr hq2)] at HX
            cases HX
            clear HB
            go_wp2
            go_region_held3 (fun w' => True) (trivial) (first | (go_at_call 28; with_reducible (refine (HA.out _).mono ?_); rintro e w1 ⟨rfl, rfl⟩) | (go_at_call 28; with_reducible (refine (HBb.out _).mono ?_); rintro e w2 ⟨rfl, rfl⟩))
            all_goals
              go_wp2
              go_ret2
              first | exact ⟨rfl, HE.out⟩ | exact ⟨rfl, HE.out.drew⟩
          · rw [if_neg (by omega)] at HX
            obtain ⟨p, rfl⟩ := Int.eq_ofNat_of_zero_le (show 0 ≤ p by omega)
            obtain ⟨q, rfl⟩ := Int.eq_ofNat_of_zero_le (show 0 ≤ q by omega)
            have hor := or16 p q (by omega) (by omega)
            have hpq : (UInt8.ofNat (((p : Int) * 16 + (q : Int)).toNat)).toNat = p * 16 + q := by simp; omega
            generalize UInt8.ofNat (((p : Int) * 16 + (q : Int)).toNat) = c at HX hpq
            have HM1 : Hid (#[Value.int .u8 ((p : Int) * 16 + (q : Int))] = (bs [c]).toArray) := by show _ = #[Value.int .u8 (c.toNat : Int)]; rw [hpq]; simp
            have HL1 : Hid (1 = [c].length) := rfl
            have HMN : Hid ([c] ≠ []) := by show _ ≠ _; simp
            have HLL : Hid (L.length + [c].length ≤ 140737488355328) := by show _ ≤ _; simp; omega
            have HSZ : Hid (w.heap.size ≤ wr.heap.size) := HE.out.size
            have HBd : Hid (BSl wr.drew w.heap.size u4 L) := HB.out.keeps (Below.refl _ _).drew
            have HSZd : Hid (w.heap.size ≤ wr.drew.heap.size) := HE.out.size
            have HX2 := show Hid (_ = _) from HX
            clear HX hpq
            go_wp2
            go_region_held3 (fun w' => True) (trivial) (first | (go_at_call 28; with_reducible (refine (HA.out _).mono ?_); rintro e w1 ⟨rfl, rfl⟩) | (go_at_call 28; with_reducible (refine (HBb.out _).mono ?_); rintro e w2 ⟨rfl, rfl⟩))
            all_goals
              go_wp2_with (first | (at_builtin; refine wpl_bsl rfl _ _ rfl w.heap.size _ L wr [c] _ HM1.out rfl 1 HL1.out rfl rfl HB.out HSZ.out HLL.out HMN.out ?_; intro v1 w3 hb1 hbel1) | (at_builtin; refine wpl_bsl rfl _ _ rfl w.heap.size _ L wr.drew [c] _ HM1.out rfl 1 HL1.out rfl rfl HBd.out HSZd.out HLL.out HMN.out ?_; intro v1 w3 hb1 hbel1))
              have HB2 : Hid (BSl w3 w.heap.size v1 (L ++ [c])) := hb1
              have HE2 : Hid (Below w.heap.size w w3) := by first | exact HE.out.trans hbel1 | exact HE.out.drew.trans hbel1
              clear hb1 hbel1 HB HE HBd
              go_wp2
              exact ⟨⟨k + 1, L ++ [c], by omega, by go_num, by simp; omega, HB2, HE2, HX2⟩, by simp [intOf]; omega⟩
      · have hd : decide ((k : Int) < (m : Int)) = false := decide_eq_false (by omega)
        have hd2 : decide (k < m) = false := decide_eq_false hlt
        have e : s.data.toList.drop (2 * k) = [] := List.drop_of_length_le (by simp; omega)
        rw [e] at HX
        have hxe : (L, 0) = (x, er) := HX.out
        cases hxe
        have hcv := HB.out.text
        clear e HB
        go_wp2
        go_ret2
        exact ⟨rfl, HE.out⟩
end Go.Proofs.Ytnlodlpjokkepaa
