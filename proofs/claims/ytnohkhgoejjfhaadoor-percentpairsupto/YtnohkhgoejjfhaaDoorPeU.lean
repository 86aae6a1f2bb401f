/- The parts of a text between a sign: the document's. -/
import Derived.Test.YtnohkhgoejjfhaaDoorPeP
namespace Go.Proofs.YtnohkhgoejjfhaaDoor
open Go.RowKit Go.Maps Go.Shelf
set_option linter.unusedVariables false
set_option linter.unusedSimpArgs false

/-- texts as cells -/
def bsC (l : List (List UInt8)) : List Value := l.map (fun x => Value.string ⟨x.toArray⟩)
theorem bsC_len (l : List (List UInt8)) : (bsC l).length = l.length := by simp [bsC]
theorem bsC_snoc (l : List (List UInt8)) (x : List UInt8) : bsC (l ++ [x]) = bsC l ++ [.string ⟨x.toArray⟩] := by simp [bsC]
/-- how far the parts are told: f begins the one that is looked through, up to k -/
structure PaA (b : UInt8) (T : List UInt8) (pre : List (List UInt8)) (f k : Nat) : Prop where
  fk : f ≤ k
  kl : k ≤ T.length
  eq : splitB b T = pre ++ splitB b (T.drop f)
  no : ∀ j (hj : j < T.length), f ≤ j → j < k → T[j] ≠ b
theorem PaA.start (b : UInt8) (T : List UInt8) : PaA b T [] 0 0 := ⟨Nat.le_refl _, Nat.zero_le _, rfl, fun j _ _ h => by omega⟩
theorem PaA.mid {b : UInt8} {T : List UInt8} {pre : List (List UInt8)} {f k : Nat} (h : PaA b T pre f k) : ∀ x ∈ (T.drop f).take (k - f), x ≠ b := by
  intro x hx
  obtain ⟨i, hi, rfl⟩ := List.mem_iff_getElem.1 hx
  rw [List.length_take, List.length_drop] at hi
  have := h.fk
  have := h.kl
  rw [List.getElem_take, List.getElem_drop]
  exact h.no (f + i) (by omega) (by omega) (by omega)
theorem PaA.skip {b : UInt8} {T : List UInt8} {pre : List (List UInt8)} {f k : Nat} (h : PaA b T pre f k) (hk : k < T.length) (hb : T[k] ≠ b) : PaA b T pre f (k + 1) :=
  ⟨by have := h.fk; omega, hk, h.eq, fun j hj h1 h2 => by
    by_cases e : j = k
    · subst e; exact hb
    · exact h.no j hj h1 (by omega)⟩
theorem PaA.cut {b : UInt8} {T : List UInt8} {pre : List (List UInt8)} {f k : Nat} (h : PaA b T pre f k) (hk : k < T.length) (hb : T[k] = b) : PaA b T (pre ++ [(T.take k).drop f]) (k + 1) (k + 1) := by
  have hf := h.fk
  refine ⟨Nat.le_refl _, hk, ?_, fun j hj h1 h2 => by omega⟩
  have e : T.drop f = (T.drop f).take (k - f) ++ b :: T.drop (k + 1) := by
    have e1 : (T.drop f).drop (k - f) = T.drop k := by rw [List.drop_drop, show f + (k - f) = k by omega]
    have e2 : T.drop k = b :: T.drop (k + 1) := by rw [List.drop_eq_getElem_cons hk, hb]
    rw [← e2, ← e1, List.take_append_drop]
  have s := splitB_app b ((T.drop f).take (k - f)) (T.drop (k + 1)) h.mid
  rw [← e] at s
  rw [h.eq, s, List.drop_take, List.append_assoc]
  rfl
theorem PaA.last {b : UInt8} {T : List UInt8} {pre : List (List UInt8)} {f k : Nat} (h : PaA b T pre f k) (hk : k = T.length) : splitB b T = pre ++ [(T.take k).drop f] := by
  have hm := h.mid
  have e : (T.drop f).take (k - f) = T.drop f := List.take_of_length_le (by rw [List.length_drop]; omega)
  rw [e] at hm
  rw [h.eq, splitB_no b _ hm, hk, List.take_length]
theorem PaA.len {b : UInt8} {T : List UInt8} {pre : List (List UInt8)} {f k : Nat} (h : PaA b T pre f k) : pre.length ≤ T.length := by
  have h1 := congrArg List.length h.eq
  have h2 := splitB_ne b (T.drop f)
  have h3 : 0 < (splitB b (T.drop f)).length := List.length_pos_iff.2 h2
  rw [List.length_append, count_split] at h1
  have h4 : Lib.countByte T b ≤ T.length := List.count_le_length
  omega
set_option maxRecDepth 100000 in
set_option maxHeartbeats 4000000 in
theorem rparts_any (t : ByteArray) (b : UInt8) (w : World) (hs : t.size ≤ 1048576) : Calls Tryd.prog 36 #[.string t, .int .u8 (b.toNat : Int)] w fun e w' => ∃ ad cap, e = .returned (.slice ad (splitB b t.data.toList).length cap) ∧ w'.ownsRow w.heap.size 9 1 (.slice ad (splitB b t.data.toList).length cap) (splitB b t.data.toList).length (bsC (splitB b t.data.toList)) ∧ Below w.heap.size w w' := by
  have hl : t.data.toList.length = t.size := by simp
  have H0 := hid (PaA.start b t.data.toList)
  have HR0 : Hid (w.ownsRow w.heap.size 9 1 (.slice none 0 0) 0 (bsC [])) := ⟨rfl, .inl ⟨rfl, rfl⟩⟩
  have HS := hid hs
  go_enter Tryd.func36, Tryd.ntmps36
  go_wp2
  go_loopw [5, 6, 7] (fun o fr i wr => ∃ (k f m : Nat) (ad1 : Option Addr) (cp1 : Nat) (pre : List (List UInt8)), m = pre.length ∧ o = .slice ad1 m cp1 ∧ fr = .int .i64 (f : Int) ∧ i = .int .i64 (k : Int) ∧ Hid (wr.ownsRow w.heap.size 9 1 (.slice ad1 m cp1) m (bsC pre)) ∧ Hid (Below w.heap.size w wr) ∧ Hid ((k ≤ t.size ∧ PaA b t.data.toList pre f k) ∨ (k = t.size + 1 ∧ splitB b t.data.toList = pre))) (fun _ _ i _ => t.size + 1 - (intOf i).toNat)
  case atStart => exact ⟨0, 0, 0, none, 0, [], rfl, rfl, rfl, rfl, HR0, Below.refl _ _, .inl ⟨by omega, H0.out⟩⟩
  case round =>
    clear H0 HR0
    obtain ⟨k, f, m, ad1, cp1, pre, hm, rfl, rfl, rfl, HR, HB, HP⟩ := hrel
    rename World => wr
    have FIN : Hid (∀ (x : List UInt8) (X : ByteArray), X = ⟨x.toArray⟩ → ∀ ad' cap' w', w'.ownsRow w.heap.size 9 1 (.slice ad' (m + 1) cap') (m + 1) (bsC pre ++ [.string X]) → Keep (fun j => (Value.slice ad1 m cp1).ownBlock = some j) (wr.alloc (.cells #[.string X] 9)) w' → Hid (w'.ownsRow w.heap.size 9 1 (.slice ad' (m + 1) cap') (m + 1) (bsC (pre ++ [x]))) ∧ Hid (Below w.heap.size w w')) := fun x X hX ad' cap' w' hr hk' => by
      refine ⟨?_, (below_on HB.out (below_al (Below.refl _ _) _)).trans (keep_below hk' (fun j hj e => by have := ownsRow_ge HR.out e; omega) (Nat.le_trans HB.out.size (below_al (Below.refl _ _) _).size))⟩
      show World.ownsRow _ _ _ _ _ _ _
      rw [bsC_snoc, ← hX]; exact hr
    have HGA : Hid (∀ X : ByteArray, (wr.alloc (.cells #[.string X] 9)).ownsRow w.heap.size 9 1 (.slice ad1 m cp1) m (bsC pre)) := fun X => ((below_al (Below.refl wr.heap.size wr) _).keep (fun _ => False)).ownsRow HR.out (fun _ _ h => h)
    have HGS : Hid (∀ X : ByteArray, w.heap.size ≤ (wr.alloc (.cells #[.string X] 9)).heap.size) := fun X => Nat.le_trans HB.out.size (below_al (Below.refl _ _) _).size
    have HGX : Hid (∀ X : ByteArray, GSrc (wr.alloc (.cells #[.string X] 9)) (.slice (some ⟨wr.heap.size, 0, none⟩) 1 1) 1 [.string X]) := fun X => gsrc_block (heap_alloc_new _ _)
    have HX2 : Hid (∀ X : ByteArray, [Value.string X].length = 1 * 1) := fun _ => rfl
    have HO1 : Hid (∀ X : ByteArray, ∀ u ∈ [Value.string X], u.oneCell' = true) := fun X u hu => by simp at hu; subst hu; rfl
    by_cases hend : k ≤ t.size
    · have HA : Hid (PaA b t.data.toList pre f k) := by
        rcases HP.out with h | h
        · exact h.2
        · omega
      have hpl := HA.out.len
      have HB16 : Hid (m + 1 ≤ 4611686018427387904) := by have := HS.out; show _ ≤ _; omega
      have HB17 : Hid ((m + 1) * 16 ≤ 140737488355328) := by have := HS.out; show _ ≤ _; omega
      have hwk : wrap64 ((k : Int) + 1) = ((k + 1 : Nat) : Int) := by have := HS.out; rw [IntWalk.wrap64_in _ (by omega)]; omega
      have hfk := HA.out.fk
      have g1 : (k : Int) ≤ (t.size : Int) := by omega
      have g2 : (0 : Int) ≤ (f : Int) := by omega
      have g3 : (f : Int) ≤ (k : Int) := by omega
      have g4 : (0 : Int) ≤ (k : Int) := by omega
      have HX := hid (ext_all t f k hend)
      by_cases hlt : k < t.size
      · have e1 : ((k : Int) == (t.size : Int)) = false := by rw [beq_eq_false_iff_ne]; omega
        have g5 : (k : Int) < (t.size : Int) := by omega
        by_cases hb : t[k] = b
        · have e2 : (((t[k]).toNat : Int) == (b.toNat : Int)) = true := by rw [hb]; simp
          have HN : Hid (PaA b t.data.toList (pre ++ [(t.data.toList.take k).drop f]) (k + 1) (k + 1)) := HA.out.cut (by omega) hb
          have HLT := hid hlt
          have HM : Hid (m + 1 = (pre ++ [(t.data.toList.take k).drop f]).length) := by show _ = _; simp; omega
          generalize (t.data.toList.take k).drop f = FR at *
          clear hb hl HA HP HR hpl hend hm hfk hs
          go_wp2_with (at_builtin; refine wpl_gappL rfl _ _ elS rfl w.heap.size (.slice ad1 m cp1) (.slice (some ⟨wr.heap.size, 0, none⟩) 1 1) (bsC pre) [.string (t.extract f k)] m 1 (m + 1) rfl rfl rfl (HGA.out _) (HGS.out _) (HGX.out _) (HX2.out _) (HO1.out _) HB16.out HB17.out ?_; intro ad' cap' w' hr' hk')
          obtain ⟨F1, F2⟩ := FIN.out FR _ HX.out _ _ _ hr' hk'
          exact ⟨⟨k + 1, k + 1, m + 1, _, _, pre ++ [FR], HM.out, rfl, by first | rw [hwk] | rfl | simp, by first | rw [hwk] | rfl | simp, F1, F2, .inl ⟨HLT.out, HN.out⟩⟩, by (try rw [hwk]); have := HLT.out; simp [intOf]; omega⟩
        · have e2 : (((t[k]).toNat : Int) == (b.toNat : Int)) = false := by
            rw [beq_eq_false_iff_ne]
            intro e
            exact hb (UInt8.toNat_inj.1 (by omega))
          have HN : Hid (PaA b t.data.toList pre f (k + 1)) := HA.out.skip (by omega) hb
          have HLT := hid hlt
          have HM := hid hm
          clear hb hl HA HP hpl hend hm hfk hs FIN HGA HGS HGX HX HX2 HO1
          go_wp2
          exact ⟨⟨k + 1, f, m, _, _, pre, HM.out, rfl, rfl, by first | rw [hwk] | rfl | simp, HR, HB, .inl ⟨HLT.out, HN.out⟩⟩, by (try rw [hwk]); have := HLT.out; simp [intOf]; omega⟩
      · have hke : k = t.size := by omega
        have e1 : ((k : Int) == (t.size : Int)) = true := by rw [beq_iff_eq]; omega
        have HN := hid (HA.out.last (by omega))
        have HKE := hid hke
        have HM : Hid (m + 1 = (pre ++ [(t.data.toList.take k).drop f]).length) := by show _ = _; simp; omega
        generalize (t.data.toList.take k).drop f = FR at *
        clear hl HA HP HR hpl hend hm hfk hs hke hlt
        go_wp2_with (at_builtin; refine wpl_gappL rfl _ _ elS rfl w.heap.size (.slice ad1 m cp1) (.slice (some ⟨wr.heap.size, 0, none⟩) 1 1) (bsC pre) [.string (t.extract f k)] m 1 (m + 1) rfl rfl rfl (HGA.out _) (HGS.out _) (HGX.out _) (HX2.out _) (HO1.out _) HB16.out HB17.out ?_; intro ad' cap' w' hr' hk')
        obtain ⟨F1, F2⟩ := FIN.out FR _ HX.out _ _ _ hr' hk'
        exact ⟨⟨k + 1, k + 1, m + 1, _, _, pre ++ [FR], HM.out, rfl, by first | rw [hwk] | rfl | simp, by first | rw [hwk] | rfl | simp, F1, F2, .inr ⟨by rw [HKE.out], HN.out⟩⟩, by (try rw [hwk]); have := HKE.out; simp [intOf]; omega⟩
    · have HE : Hid (splitB b t.data.toList = pre) := by
        rcases HP.out with h | h
        · omega
        · exact h.2
      have hd1 : decide ((k : Int) ≤ (t.size : Int)) = false := decide_eq_false (by omega)
      have hd2 : decide (k ≤ t.size) = false := decide_eq_false hend
      subst hm
      clear HP hend hl hs FIN HGA HGS HGX HX2 HO1 HS
      go_wp2
      go_ret
      exact ⟨ad1, cp1, by rw [HE.out]; rfl, by rw [HE.out]; exact HR.out, HB.out⟩
end Go.Proofs.YtnohkhgoejjfhaaDoor
