/- What pairs are written as: the document's Query. -/
import Derived.Test.YtnohkhgoejjfhaaDoorPeP
namespace Go.Proofs.YtnohkhgoejjfhaaDoor
open Go.RowKit Go.Maps Go.Shelf
set_option linter.unusedVariables false
set_option linter.unusedSimpArgs false

/-- what is written of the first pairs -/
def jnP (l : List Pq) : List UInt8 := joinB 38 (l.map pqT)
theorem joinB_snoc (b : UInt8) (l : List (List UInt8)) (x : List UInt8) (h : l ≠ []) : joinB b (l ++ [x]) = joinB b l ++ [b] ++ x := by
  induction l with
  | nil => exact absurd rfl h
  | cons y r ih =>
    cases r with
    | nil => simp [joinB]
    | cons z r =>
      have := ih (by simp)
      simp only [List.cons_append] at this ⊢
      rw [joinB, joinB, this]
      simp
theorem jnP_zero (l : List Pq) (hk : 0 < l.length) : jnP (l.take (0 + 1)) = [] ++ pqT l[0] := by
  rw [List.take_succ_eq_append_getElem hk]
  simp [jnP, joinB]
theorem jnP_succ (l : List Pq) (k : Nat) (hk : k < l.length) (h0 : 0 < k) : jnP (l.take (k + 1)) = jnP (l.take k) ++ [38] ++ pqT l[k] := by
  rw [List.take_succ_eq_append_getElem hk]
  unfold jnP
  rw [List.map_append]
  exact joinB_snoc 38 _ _ (by
    intro e
    have hlen : ((l.take k).map pqT).length = 0 := by rw [e]; rfl
    rw [List.length_map, List.length_take] at hlen
    omega)
theorem pqT_e (p : Pq) (h : p.2 = []) : pqT p = escL plB p.1 := by unfold pqT; rw [if_pos h]
theorem pqT_v (p : Pq) (h : ¬ p.2 = []) : pqT p = escL plB p.1 ++ [61] ++ escL plB p.2 := by unfold pqT; rw [if_neg h]; simp
theorem jnP_len (l : List Pq) (hl : l.length ≤ 16) (hs : szP l ≤ 1048576) (k : Nat) : (jnP (l.take k)).length ≤ 4194304 := by
  have h1 := joinB_le 38 ((l.take k).map pqT)
  have h2 := tot_le (l.take k)
  have h3 : szP (l.take k) ≤ szP l := by
    unfold szP
    have e : l = l.take k ++ l.drop k := (List.take_append_drop _ _).symm
    have : (l.map (fun p => p.1.length + p.2.length)).sum = ((l.take k).map (fun p => p.1.length + p.2.length)).sum + ((l.drop k).map (fun p => p.1.length + p.2.length)).sum := by
      rw [← List.sum_append, ← List.map_append, ← e]
    omega
  have h4 : (l.take k).length ≤ 16 := by rw [List.length_take]; omega
  unfold jnP
  simp only [List.length_map] at h1
  omega
set_option maxRecDepth 100000 in
set_option maxHeartbeats 4000000 in
theorem rquery_any (v : Value) (l : List Pq) (w : World) (hv : PqI w v l) (hs : szP l ≤ 1048576) : Calls Tryd.prog 16 #[v] w fun e w' => e = .returned (.tuple #[.string ⟨(quT l).1.toArray⟩, .int .i64 (quT l).2]) ∧ Below w.heap.size w w' := by
  obtain ⟨ad, cap, rfl, hc⟩ := hv.form
  by_cases hm : 16 < l.length
  · have HR := hid (quT_many l hm)
    have hd : (16 : Int) < (l.length : Int) := by omega
    clear hc hv hs hm
    generalize quT l = R at *
    generalize l.length = n at *
    go_enter Tryd.func16, Tryd.ntmps16
    go_wp2
    go_ret2
    exact ⟨by rw [HR.out]; rfl, Below.refl _ _⟩
  · have hd : ¬ (16 : Int) < (l.length : Int) := by omega
    have HL : Hid (l.length ≤ 16) := by show _ ≤ _; omega
    have HC := hid hc
    have HBAD := hid (quT_bad l hm)
    have HOK := hid (quT_ok l hm)
    have HSZ := hid (fun k hk => Nat.le_trans (szP_at l k hk) hs)
    have HJL := hid (jnP_len l HL.out hs)
    have HJ0 := hid (jnP_zero l)
    have HJS := hid (jnP_succ l)
    have HZ : Hid (l.take l.length = l) := List.take_length
    generalize quT l = R at *
    clear hc hv hs hm
    go_enter Tryd.func16, Tryd.ntmps16
    go_wp2
    go_loopw [4, 5] (fun o i wr => ∃ (k : Nat), k ≤ l.length ∧ o = .string ⟨(jnP (l.take k)).toArray⟩ ∧ i = .int .i64 (k : Int) ∧ Hid (Below w.heap.size w wr) ∧ Hid (∀ p ∈ l.take k, ¬ p.1 = [])) (fun _ i _ => l.length - (intOf i).toNat)
    case atStart => exact ⟨0, Nat.zero_le _, rfl, rfl, Below.refl _ _, by show ∀ _ ∈ _, _; simp⟩
    case round =>
      obtain ⟨k, hk, rfl, rfl, HB, HN⟩ := hrel
      rename World => wr
      by_cases hlt : k < l.length
      · have hk1 : (k : Int) < (l.length : Int) := by omega
        have hk0 : (0 : Int) ≤ (k : Int) := by omega
        obtain ⟨b, off, rfl, hb, c0, c1⟩ := HC.out k hlt
        have d0 := (HB.out.cell (p := ⟨b, off + k * 2, none⟩) hb).trans c0
        have d1 := (HB.out.cell (p := ⟨b, off + k * 2 + 1, none⟩) hb).trans c1
        have HBB : Hid (b < wr.heap.size) := Nat.lt_of_lt_of_le hb HB.out.size
        have hwk : wrap64 ((k : Int) + 1) = ((k + 1 : Nat) : Int) := by have := HL.out; rw [IntWalk.wrap64_in _ (by omega)]; omega
        have hz := HSZ.out k hlt
        have RN := hid (fun W => rname_any ⟨l[k].1.toArray⟩ W (by rw [ba_size]; omega))
        have RV := hid (fun W => rname_any ⟨l[k].2.toArray⟩ W (by rw [ba_size]; omega))
        simp only [ba_list] at RN RV
        have ln := (escL_len plB l[k].1).2
        have lv := (escL_len plB l[k].2).2
        have lj := HJL.out k
        have HB2 := hid (HBAD.out l[k] (List.getElem_mem hlt))
        have HN2 : Hid (¬ l[k].1 = [] → ∀ p ∈ l.take (k + 1), ¬ p.1 = []) := fun h p hp => by
          rw [List.take_succ_eq_append_getElem hlt] at hp
          rcases List.mem_append.1 hp with hp | hp
          · exact HN.out p hp
          · simp at hp; subst hp; exact h
        have hbn := emp_b l[k].1
        have hbv := emp_b l[k].2
        by_cases he : l[k].1 = []
        · have hb2 : (ByteArray.toList ⟨l[k].1.toArray⟩ == []) = true := by rw [hbn]; exact decide_eq_true he
          have HF := hid (HB2.out he)
          generalize (⟨l[k].1.toArray⟩ : ByteArray) = NA at *
          generalize (⟨l[k].2.toArray⟩ : ByteArray) = VA at *
          clear hbn hbv he HB2 HN2 RN RV HC HBAD HOK HSZ HJL HJ0 HJS HZ HL c0 c1 hb HN ln lv lj hz hlt hk
          go_wp2
          go_ret2
          exact ⟨by rw [HF.out]; rfl, HB.out⟩
        · have hb2 : (ByteArray.toList ⟨l[k].1.toArray⟩ == []) = false := by rw [hbn]; exact decide_eq_false he
          have HN3 := hid (HN2.out he)
          have ET := hid (pqT_e l[k])
          have EV := hid (pqT_v l[k])
          have KZ : Hid (k = 0 → jnP (l.take (k + 1)) = jnP (l.take k) ++ pqT l[k]) := fun h => by subst h; exact HJ0.out (by omega)
          have KS := hid (HJS.out k hlt)
          clear HB2 HN2 HC HBAD HOK HSZ HJL HJ0 HJS HZ HL c0 c1 hb HN hbn he hk
          by_cases h0 : k = 0
          · have g0 : ¬ (0 : Int) < (k : Int) := by omega
            have HJ := hid (KZ.out h0)
            have A0 := fun W => addP (jnP (l.take k)) [38] W (by first | omega | (simp; omega))
            have A1 := fun W => addP (jnP (l.take k)) (escL plB l[k].1) W (by first | omega | (simp; omega))
            have A2 := fun W => addP ((jnP (l.take k)) ++ escL plB l[k].1) [61] W (by first | omega | (simp; omega))
            have A3 := fun W => addP ((jnP (l.take k)) ++ escL plB l[k].1 ++ [61]) (escL plB l[k].2) W (by first | omega | (simp; omega))
            by_cases hv : l[k].2 = []
            · have hb3 : (ByteArray.toList ⟨l[k].2.toArray⟩ != []) = false := by rw [bne, hbv, decide_eq_true hv]; rfl
              have hb4 : (ByteArray.toList ⟨l[k].2.toArray⟩ == []) = true := by rw [hbv]; exact decide_eq_true hv
              have HT := hid (ET.out hv)
              have FIN : Hid (jnP (l.take (k + 1)) = (jnP (l.take k)) ++ escL plB l[k].1) := by show _ = _; rw [HJ.out, HT.out] <;> simp
              have HLT := hid hlt
              clear HJ HT KZ KS ET EV hbv hv lj ln lv hz h0
              generalize (jnP (l.take k)) ++ escL plB l[k].1 ++ [61] ++ escL plB l[k].2 = J3 at *
              generalize (jnP (l.take k)) ++ escL plB l[k].1 ++ [61] = J2 at *
              generalize (jnP (l.take k)) ++ escL plB l[k].1 = J1 at *
              generalize jnP (l.take k) ++ [38] = J0 at *
              generalize jnP (l.take k) = JK at *
              generalize escL plB l[k].1 = EN at *
              generalize escL plB l[k].2 = EW at *
              generalize (⟨l[k].1.toArray⟩ : ByteArray) = NA at *
              generalize (⟨l[k].2.toArray⟩ : ByteArray) = VA at *
              go_wp2_with fail
              refine (RN.out _).mono ?_
              rintro e w1 ⟨rfl, b1⟩
              have B1 := hid (below_on HB.out b1)
              have p0 := (b1.cell (p := ⟨b, off + k * 2, none⟩) (HBB.out)).trans d0
              have p1 := (b1.cell (p := ⟨b, off + k * 2 + 1, none⟩) (HBB.out)).trans d1
              clear b1 RN d0 d1
              go_wp2
              exact ⟨⟨k + 1, HLT.out, by rw [FIN.out], by first | rw [hwk] | rfl | simp, B1, HN3⟩, by (try rw [hwk]); have := HLT.out; simp [intOf]; omega⟩
            · have hb3 : (ByteArray.toList ⟨l[k].2.toArray⟩ != []) = true := by rw [bne, hbv, decide_eq_false hv]; rfl
              have hb4 : (ByteArray.toList ⟨l[k].2.toArray⟩ == []) = false := by rw [hbv]; exact decide_eq_false hv
              have HT := hid (EV.out hv)
              have FIN : Hid (jnP (l.take (k + 1)) = (jnP (l.take k)) ++ escL plB l[k].1 ++ [61] ++ escL plB l[k].2) := by show _ = _; rw [HJ.out, HT.out] <;> simp
              have HLT := hid hlt
              clear HJ HT KZ KS ET EV hbv hv lj ln lv hz h0
              generalize (jnP (l.take k)) ++ escL plB l[k].1 ++ [61] ++ escL plB l[k].2 = J3 at *
              generalize (jnP (l.take k)) ++ escL plB l[k].1 ++ [61] = J2 at *
              generalize (jnP (l.take k)) ++ escL plB l[k].1 = J1 at *
              generalize jnP (l.take k) ++ [38] = J0 at *
              generalize jnP (l.take k) = JK at *
              generalize escL plB l[k].1 = EN at *
              generalize escL plB l[k].2 = EW at *
              generalize (⟨l[k].1.toArray⟩ : ByteArray) = NA at *
              generalize (⟨l[k].2.toArray⟩ : ByteArray) = VA at *
              go_wp2_with fail
              refine (RN.out _).mono ?_
              rintro e w1 ⟨rfl, b1⟩
              have B1 := hid (below_on HB.out b1)
              have p0 := (b1.cell (p := ⟨b, off + k * 2, none⟩) (HBB.out)).trans d0
              have p1 := (b1.cell (p := ⟨b, off + k * 2 + 1, none⟩) (HBB.out)).trans d1
              clear b1 RN d0 d1
              go_wp2_with fail
              refine (RV.out _).mono ?_
              rintro e w2 ⟨rfl, b2⟩
              have B2 := hid (below_on B1.out b2)
              clear b2 RV p0 p1
              go_wp2
              exact ⟨⟨k + 1, HLT.out, by rw [FIN.out], by first | rw [hwk] | rfl | simp, B2, HN3⟩, by (try rw [hwk]); have := HLT.out; simp [intOf]; omega⟩
          · have g0 : (0 : Int) < (k : Int) := by omega
            have HJ := hid (KS.out (by omega))
            have A0 := fun W => addP (jnP (l.take k)) [38] W (by first | omega | (simp; omega))
            have A1 := fun W => addP (jnP (l.take k) ++ [38]) (escL plB l[k].1) W (by first | omega | (simp; omega))
            have A2 := fun W => addP ((jnP (l.take k) ++ [38]) ++ escL plB l[k].1) [61] W (by first | omega | (simp; omega))
            have A3 := fun W => addP ((jnP (l.take k) ++ [38]) ++ escL plB l[k].1 ++ [61]) (escL plB l[k].2) W (by first | omega | (simp; omega))
            by_cases hv : l[k].2 = []
            · have hb3 : (ByteArray.toList ⟨l[k].2.toArray⟩ != []) = false := by rw [bne, hbv, decide_eq_true hv]; rfl
              have hb4 : (ByteArray.toList ⟨l[k].2.toArray⟩ == []) = true := by rw [hbv]; exact decide_eq_true hv
              have HT := hid (ET.out hv)
              have FIN : Hid (jnP (l.take (k + 1)) = (jnP (l.take k) ++ [38]) ++ escL plB l[k].1) := by show _ = _; rw [HJ.out, HT.out] <;> simp
              have HLT := hid hlt
              clear HJ HT KZ KS ET EV hbv hv lj ln lv hz h0
              generalize (jnP (l.take k) ++ [38]) ++ escL plB l[k].1 ++ [61] ++ escL plB l[k].2 = J3 at *
              generalize (jnP (l.take k) ++ [38]) ++ escL plB l[k].1 ++ [61] = J2 at *
              generalize (jnP (l.take k) ++ [38]) ++ escL plB l[k].1 = J1 at *
              generalize jnP (l.take k) ++ [38] = J0 at *
              generalize jnP (l.take k) = JK at *
              generalize escL plB l[k].1 = EN at *
              generalize escL plB l[k].2 = EW at *
              generalize (⟨l[k].1.toArray⟩ : ByteArray) = NA at *
              generalize (⟨l[k].2.toArray⟩ : ByteArray) = VA at *
              go_wp2_with fail
              refine (RN.out _).mono ?_
              rintro e w1 ⟨rfl, b1⟩
              have B1 := hid (below_on HB.out b1)
              have p0 := (b1.cell (p := ⟨b, off + k * 2, none⟩) (HBB.out)).trans d0
              have p1 := (b1.cell (p := ⟨b, off + k * 2 + 1, none⟩) (HBB.out)).trans d1
              clear b1 RN d0 d1
              go_wp2
              exact ⟨⟨k + 1, HLT.out, by rw [FIN.out], by first | rw [hwk] | rfl | simp, B1, HN3⟩, by (try rw [hwk]); have := HLT.out; simp [intOf]; omega⟩
            · have hb3 : (ByteArray.toList ⟨l[k].2.toArray⟩ != []) = true := by rw [bne, hbv, decide_eq_false hv]; rfl
              have hb4 : (ByteArray.toList ⟨l[k].2.toArray⟩ == []) = false := by rw [hbv]; exact decide_eq_false hv
              have HT := hid (EV.out hv)
              have FIN : Hid (jnP (l.take (k + 1)) = (jnP (l.take k) ++ [38]) ++ escL plB l[k].1 ++ [61] ++ escL plB l[k].2) := by show _ = _; rw [HJ.out, HT.out] <;> simp
              have HLT := hid hlt
              clear HJ HT KZ KS ET EV hbv hv lj ln lv hz h0
              generalize (jnP (l.take k) ++ [38]) ++ escL plB l[k].1 ++ [61] ++ escL plB l[k].2 = J3 at *
              generalize (jnP (l.take k) ++ [38]) ++ escL plB l[k].1 ++ [61] = J2 at *
              generalize (jnP (l.take k) ++ [38]) ++ escL plB l[k].1 = J1 at *
              generalize jnP (l.take k) ++ [38] = J0 at *
              generalize jnP (l.take k) = JK at *
              generalize escL plB l[k].1 = EN at *
              generalize escL plB l[k].2 = EW at *
              generalize (⟨l[k].1.toArray⟩ : ByteArray) = NA at *
              generalize (⟨l[k].2.toArray⟩ : ByteArray) = VA at *
              go_wp2_with fail
              refine (RN.out _).mono ?_
              rintro e w1 ⟨rfl, b1⟩
              have B1 := hid (below_on HB.out b1)
              have p0 := (b1.cell (p := ⟨b, off + k * 2, none⟩) (HBB.out)).trans d0
              have p1 := (b1.cell (p := ⟨b, off + k * 2 + 1, none⟩) (HBB.out)).trans d1
              clear b1 RN d0 d1
              go_wp2_with fail
              refine (RV.out _).mono ?_
              rintro e w2 ⟨rfl, b2⟩
              have B2 := hid (below_on B1.out b2)
              clear b2 RV p0 p1
              go_wp2
              exact ⟨⟨k + 1, HLT.out, by rw [FIN.out], by first | rw [hwk] | rfl | simp, B2, HN3⟩, by (try rw [hwk]); have := HLT.out; simp [intOf]; omega⟩
      · have hke : k = l.length := by omega
        have hd1 : decide ((k : Int) < (l.length : Int)) = false := decide_eq_false (by omega)
        have hd2 : decide (k < l.length) = false := decide_eq_false hlt
        subst hke
        rw [HZ.out] at HN
        have HF : Hid (R = (jnP (l.take l.length), 0)) := by show R = _; rw [HZ.out]; exact HOK.out HN.out
        clear HC HBAD HOK HSZ HJL HJ0 HJS HZ HL HN hlt hk
        generalize jnP (l.take l.length) = JB at *
        go_wp2
        go_ret2
        exact ⟨by rw [HF.out]; rfl, HB.out⟩
end Go.Proofs.YtnohkhgoejjfhaaDoor
