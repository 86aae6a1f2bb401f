/- The walk of the reference's Unhex. -/
import Derived.Test.YtbiapepalkdkdaaHexM
import Derived.Test.YtbiapepalkdkdaaBSl
import Derived.Test.YtbiapepalkdkdaaHidM
namespace Go.Proofs.Ytbiapepalkdkdaa
open Go.RowKit
set_option linter.unusedVariables false

/-- what is known at the sign k: nothing is half read, or one digit is -/
def US (s : List UInt8) (x : List UInt8) (er : Nat) (k : Nat) (n : Nat) (L : List UInt8) : Prop :=
  (k % 2 = 0 ∧ unh (s.drop k) L = (x, er)) ∨ (k % 2 = 1 ∧ ∃ a : UInt8, halfN a.toNat = ((n % 16 : Nat) : Int) ∧ unh (a :: s.drop k) L = (x, er))
theorem US.bad {s x : List UInt8} {er k n : Nat} {L : List UInt8} (h : US s x er k n L) (hs : s.length % 2 = 0) (hk : k < s.length) (hd : halfN s[k].toNat < 0) : x = [] ∧ er = 3 := by
  rcases h with ⟨h1, h2⟩ | ⟨h1, a, h3, h2⟩
  · rw [List.drop_eq_getElem_cons hk, List.drop_eq_getElem_cons (by omega), unh, if_pos (Or.inl hd)] at h2
    cases h2; exact ⟨rfl, rfl⟩
  · rw [List.drop_eq_getElem_cons hk, unh, if_pos (Or.inr hd)] at h2
    cases h2; exact ⟨rfl, rfl⟩
theorem US.even {s x : List UInt8} {er k n d : Nat} {L : List UInt8} (h : US s x er k n L) (hk : k < s.length) (hd : halfN s[k].toNat = (d : Int)) (h0 : k % 2 = 0) : US s x er (k + 1) (n % 16 * 16 + d) L := by
  have hl := half_lt s[k].toNat
  rcases h with ⟨h1, h2⟩ | ⟨h1, _⟩
  · rw [List.drop_eq_getElem_cons hk] at h2
    exact .inr ⟨by omega, s[k], by rw [hd]; omega, h2⟩
  · omega
theorem US.odd {s x : List UInt8} {er k n d : Nat} {L : List UInt8} (h : US s x er k n L) (hk : k < s.length) (hd : halfN s[k].toNat = (d : Int)) (h0 : k % 2 = 1) : US s x er (k + 1) (n % 16 * 16 + d) (L ++ [UInt8.ofNat (n % 16 * 16 + d)]) := by
  rcases h with ⟨h1, _⟩ | ⟨h1, a, h3, h2⟩
  · omega
  · rw [List.drop_eq_getElem_cons hk, unh, hd, h3, if_neg (by omega)] at h2
    exact .inl ⟨by omega, by rw [← h2]; rfl⟩

set_option maxRecDepth 100000 in
set_option maxHeartbeats 1000000 in
theorem runhex_any (s : ByteArray) (w : World) (hs : s.size ≤ 140737488355328) (x : List UInt8) (er : Nat) (hx : unh s.data.toList [] = (x, er)) :
    Calls Try.prog 61 #[.string s] w fun e w' => e = .returned (.tuple #[.string ⟨x.toArray⟩, .int .i64 er]) ∧ Below w.heap.size w w' := by
  by_cases hpar : s.size % 2 = 1
  · have h := unh_odd _ s.data.toList [] (Nat.le_refl _) (by simpa using hpar)
    rw [h] at hx
    cases hx
    have hq : ¬ ((s.size : Int) % 2 = 0) := by omega
    clear h
    go_enter Try.func61, Try.ntmps61
    go_wp2
    go_ret2
    exact ⟨rfl, Below.refl _ _⟩
  · have hq : (s.size : Int) % 2 = 0 := by omega
    have HP : Hid (s.data.toList.length % 2 = 0) := by show _ = _; simp; omega
    have HU : Hid (US s.data.toList x er 0 0 []) := .inl ⟨rfl, hx⟩
    have HB0 : Hid (BSl w w.heap.size (.slice none 0 0) []) := BSl.nil _ _
    have HE0 : Hid (Below w.heap.size w w) := Below.refl _ _
    clear hpar hx
    go_enter Try.func61, Try.ntmps61
    go_wp2
    go_loopw [4, 5, 6] (fun v n i wr => ∃ (k m : Nat) (L : List UInt8), k ≤ s.size ∧ m < 256 ∧ L.length ≤ k ∧ n = .int .i64 m ∧ i = .int .i64 k ∧ Hid (BSl wr w.heap.size v L) ∧ Hid (Below w.heap.size w wr) ∧ Hid (US s.data.toList x er k m L)) (fun _ _ i _ => s.size - (intOf i).toNat)
    case atStart => exact ⟨0, 0, [], by omega, by omega, by simp, rfl, rfl, HB0, HE0, HU⟩
    case round =>
      clear HB0 HE0 HU hq
      obtain ⟨k, m, L, hk, hm, hL, rfl, rfl, HB, HE, HU⟩ := hrel
      by_cases hlt : k < s.size
      · have hk0 : (0 : Int) ≤ (k : Int) := by omega
        have hk1 : (k : Int) < (s.size : Int) := by omega
        have hkl : k < s.data.toList.length := by simpa using hlt
        have HC : s.data.toList[k] = s[k] := rfl
        have HBAD : Hid (halfN s[k].toNat < 0 → x = [] ∧ er = 3) := fun h => HU.out.bad HP.out hkl h
        have HEV : Hid (∀ d : Nat, halfN s[k].toNat = (d : Int) → k % 2 = 0 → US s.data.toList x er (k + 1) (m % 16 * 16 + d) L) := fun d hd h0 => HU.out.even hkl hd h0
        have HOD : Hid (∀ d : Nat, halfN s[k].toNat = (d : Int) → k % 2 = 1 → US s.data.toList x er (k + 1) (m % 16 * 16 + d) (L ++ [UInt8.ofNat (m % 16 * 16 + d)])) := fun d hd h0 => HU.out.odd hkl hd h0
        have HSZ : Hid (w.heap.size ≤ wr.heap.size) := HE.out.size
        clear HU HC HP
        generalize hc : s[k] = c at HBAD HEV HOD
        have hcl := UInt8.toNat_lt c
        by_cases h1 : 48 ≤ c.toNat ∧ c.toNat ≤ 57
        · have e : halfN c.toNat = ((c.toNat - 48 : Nat) : Int) := by unfold halfN; rw [if_pos h1]; omega
          have HEV2 := show Hid (k % 2 = 0 → _) from HEV.out _ e
          have HOD2 := show Hid (k % 2 = 1 → _) from HOD.out _ e
          have hn : ((m % 16 * 16 + (c.toNat - 48) : Nat) : Int) = (m : Int) % 16 * 16 + ((c.toNat : Int) - 48) := by omega
          have hn2 : m % 16 * 16 + (c.toNat - 48) < 256 := by omega
          obtain ⟨h2, h3⟩ := h1
          have h4 : (48 : Int) ≤ (c.toNat : Int) := by omega
          have h5 : (c.toNat : Int) ≤ 57 := by omega
          have h6 : ¬ (97 : Int) ≤ (c.toNat : Int) := by omega
          clear HBAD HEV HOD e
          generalize hN : m % 16 * 16 + (c.toNat - 48) = N at hn hn2 HEV2 HOD2
          by_cases h0 : k % 2 = 0
          · have h00 : ¬ ((k : Int) % 2 = 1) := by omega
            have HEV3 := show Hid _ from HEV2.out h0
            clear HEV2 HOD2 hN
            go_wp2
            exact ⟨⟨k + 1, N, L, by omega, hn2, by omega, by rw [hn], by go_num, HB, HE, HEV3⟩, by simp [intOf]; omega⟩
          · have h00 : (k : Int) % 2 = 1 := by omega
            have HOD3 := show Hid _ from HOD2.out (by omega)
            have hz : (UInt8.ofNat N).toNat = N := by simp; omega
            generalize UInt8.ofNat N = z at HOD3 hz
            have HM1 : Hid (#[Value.int .u8 ((m : Int) % 16 * 16 + ((c.toNat : Int) - 48))] = (bs [z]).toArray) := by show _ = #[Value.int .u8 (z.toNat : Int)]; rw [hz, hn]
            have HL1 : Hid (1 = [z].length) := rfl
            have HMN : Hid ([z] ≠ []) := by show _ ≠ _; simp
            have HLL : Hid (L.length + [z].length ≤ 140737488355328) := by show _ ≤ _; simp; omega
            clear HEV2 HOD2 hN hz
            go_wp2_with (at_builtin; refine wpl_bsl rfl _ _ rfl w.heap.size _ L wr [z] _ HM1.out rfl 1 HL1.out rfl rfl HB.out HSZ.out HLL.out HMN.out ?_; intro v1 w3 hb1 hbel1)
            have HB2 : Hid (BSl w3 w.heap.size v1 (L ++ [z])) := hb1
            have HE2 : Hid (Below w.heap.size w w3) := HE.out.trans hbel1
            clear hb1 hbel1 HB HE
            go_wp2
            exact ⟨⟨k + 1, N, L ++ [z], by omega, hn2, by simp; omega, by rw [hn], by go_num, HB2, HE2, HOD3⟩, by simp [intOf]; omega⟩
        · by_cases h2 : 97 ≤ c.toNat ∧ c.toNat ≤ 102
          · have e : halfN c.toNat = ((c.toNat - 87 : Nat) : Int) := by unfold halfN; rw [if_neg h1]; rw [if_pos h2]; omega
            have HEV2 := show Hid (k % 2 = 0 → _) from HEV.out _ e
            have HOD2 := show Hid (k % 2 = 1 → _) from HOD.out _ e
            have hn : ((m % 16 * 16 + (c.toNat - 87) : Nat) : Int) = (m : Int) % 16 * 16 + ((c.toNat : Int) - 87) := by omega
            have hn2 : m % 16 * 16 + (c.toNat - 87) < 256 := by omega
            obtain ⟨h3, h8⟩ := h2
            have h4 : (48 : Int) ≤ (c.toNat : Int) := by omega
            have h5 : ¬ (c.toNat : Int) ≤ 57 := by omega
            have h6 : (97 : Int) ≤ (c.toNat : Int) := by omega
            have h7 : (c.toNat : Int) ≤ 102 := by omega
            clear h1
            clear HBAD HEV HOD e
            generalize hN : m % 16 * 16 + (c.toNat - 87) = N at hn hn2 HEV2 HOD2
            by_cases h0 : k % 2 = 0
            · have h00 : ¬ ((k : Int) % 2 = 1) := by omega
              have HEV3 := show Hid _ from HEV2.out h0
              clear HEV2 HOD2 hN
              go_wp2
              exact ⟨⟨k + 1, N, L, by omega, hn2, by omega, by rw [hn], by go_num, HB, HE, HEV3⟩, by simp [intOf]; omega⟩
            · have h00 : (k : Int) % 2 = 1 := by omega
              have HOD3 := show Hid _ from HOD2.out (by omega)
              have hz : (UInt8.ofNat N).toNat = N := by simp; omega
              generalize UInt8.ofNat N = z at HOD3 hz
              have HM1 : Hid (#[Value.int .u8 ((m : Int) % 16 * 16 + ((c.toNat : Int) - 87))] = (bs [z]).toArray) := by show _ = #[Value.int .u8 (z.toNat : Int)]; rw [hz, hn]
              have HL1 : Hid (1 = [z].length) := rfl
              have HMN : Hid ([z] ≠ []) := by show _ ≠ _; simp
              have HLL : Hid (L.length + [z].length ≤ 140737488355328) := by show _ ≤ _; simp; omega
              clear HEV2 HOD2 hN hz
              go_wp2_with (at_builtin; refine wpl_bsl rfl _ _ rfl w.heap.size _ L wr [z] _ HM1.out rfl 1 HL1.out rfl rfl HB.out HSZ.out HLL.out HMN.out ?_; intro v1 w3 hb1 hbel1)
              have HB2 : Hid (BSl w3 w.heap.size v1 (L ++ [z])) := hb1
              have HE2 : Hid (Below w.heap.size w w3) := HE.out.trans hbel1
              clear hb1 hbel1 HB HE
              go_wp2
              exact ⟨⟨k + 1, N, L ++ [z], by omega, hn2, by simp; omega, by rw [hn], by go_num, HB2, HE2, HOD3⟩, by simp [intOf]; omega⟩
          · have e : halfN c.toNat = -1 := by unfold halfN; rw [if_neg h1, if_neg h2]
            obtain ⟨rfl, rfl⟩ := HBAD.out (by rw [e]; decide)
            clear HBAD HEV HOD e HB
            by_cases h3 : 48 ≤ c.toNat
            · have h4 : (48 : Int) ≤ (c.toNat : Int) := by omega
              have h5 : ¬ (c.toNat : Int) ≤ 57 := by omega
              by_cases h6 : 97 ≤ c.toNat
              · have h7 : (97 : Int) ≤ (c.toNat : Int) := by omega
                have h8 : ¬ (c.toNat : Int) ≤ 102 := by omega
                clear h1 h2
                go_wp2
                go_ret2
                exact ⟨rfl, HE.out⟩
              · have h7 : ¬ (97 : Int) ≤ (c.toNat : Int) := by omega
                clear h1 h2
                go_wp2
                go_ret2
                exact ⟨rfl, HE.out⟩
            · have h4 : ¬ (48 : Int) ≤ (c.toNat : Int) := by omega
              have h7 : ¬ (97 : Int) ≤ (c.toNat : Int) := by omega
              clear h1 h2
              go_wp2
              go_ret2
              exact ⟨rfl, HE.out⟩
      · have hd : decide ((k : Int) < (s.size : Int)) = false := decide_eq_false (by omega)
        have hd2 : decide (k < s.size) = false := decide_eq_false hlt
        have e : s.data.toList.drop k = [] := List.drop_of_length_le (by simp; omega)
        have hxe : (L, 0) = (x, er) := by
          rcases HU.out with ⟨_, h2⟩ | ⟨h1, _⟩
          · rw [e] at h2; exact h2
          · exfalso; have := HP.out; simp at this; omega
        cases hxe
        have hcv := HB.out.text
        clear e HB HU
        go_wp2
        go_ret2
        exact ⟨rfl, HE.out⟩
end Go.Proofs.Ytbiapepalkdkdaa
