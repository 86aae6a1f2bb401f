/- The bytes that a text says: the document's. -/
import Derived.Test.YtnohkhgoejjfhaaDoorPeG
import Derived.Test.YtnohkhgoejjfhaaDoorBSl
namespace Go.Proofs.YtnohkhgoejjfhaaDoor
open Go.RowKit
set_option linter.unusedVariables false
set_option linter.unusedSimpArgs false

/-- what Read answers -/
def rbE (raw : UInt8 → Option UInt8) (t : List UInt8) : List UInt8 × Bool := match rdE raw t with
  | none => ([], false)
  | some l => (l, true)
theorem RdA.failB {raw : UInt8 → Option UInt8} {t l : List UInt8} {m : Nat} (h : RdA raw t l m) (hm : m < t.length) (hs : stE raw (t.drop m) = none) : rbE raw t = ([], false) := by
  have e := List.drop_eq_getElem_cons hm
  unfold rbE
  rw [h.2.2, e, rdE_st, ← e, hs]; rfl
theorem RdA.doneB {raw : UInt8 → Option UInt8} {t l : List UInt8} {m : Nat} (h : RdA raw t l m) (hm : t.length ≤ m) : rbE raw t = (l, true) := by
  unfold rbE
  rw [h.2.2, List.drop_eq_nil_of_le hm, rdE_nil]
  simp
theorem stB_raw (raw : UInt8 → Option UInt8) (t : ByteArray) (k : Nat) (hk : k < t.size) (h : ¬ (t[k]).toNat = 37) : stE raw (t.data.toList.drop k) = (raw t[k]).map (·, 1) := by
  rw [List.drop_eq_getElem_cons (by simpa using hk)]
  exact stE_raw raw _ _ h
theorem stB_cut (raw : UInt8 → Option UInt8) (t : ByteArray) (k : Nat) (hk : k < t.size) (h : (t[k]).toNat = 37) (h2 : t.size ≤ k + 2) : stE raw (t.data.toList.drop k) = none := by
  have hl : t.data.toList.length = t.size := by simp
  rw [List.drop_eq_getElem_cons (by simpa using hk)]
  by_cases h3 : t.size ≤ k + 1
  · rw [List.drop_eq_nil_of_le (by omega)]; exact stE_cut1 raw _ h
  · rw [List.drop_eq_getElem_cons (show k + 1 < t.data.toList.length by omega), List.drop_eq_nil_of_le (by omega)]; exact stE_cut2 raw _ _ h
theorem stB_esc (raw : UInt8 → Option UInt8) (t : ByteArray) (k : Nat) (hk : k < t.size) (h1 : k + 1 < t.size) (h2 : k + 2 < t.size) (h : (t[k]).toNat = 37) : stE raw (t.data.toList.drop k) = if sxN (t[k + 1]).toNat < 0 ∨ sxN (t[k + 2]).toNat < 0 then none else some (byS t[k + 1] t[k + 2], 3) := by
  have hl : t.data.toList.length = t.size := by simp
  rw [List.drop_eq_getElem_cons (by simpa using hk), List.drop_eq_getElem_cons (show k + 1 < t.data.toList.length by omega), List.drop_eq_getElem_cons (show k + 1 + 1 < t.data.toList.length by omega)]
  exact stE_esc raw _ _ _ _ h
theorem wrK (z : Int) (h0 : -4000000 ≤ z) (h1 : z ≤ 4000000) : IntKind.i64.wrap z = z ∧ wrap64 z = z := ⟨by rw [IntKind.wrap_i64]; omega, IntWalk.wrap64_in _ (by omega)⟩
theorem idxP (t : ByteArray) (i : Int) (j : Nat) (hj : j < t.size) (h : i = (j : Int)) (W : World) : (Instr.index 9 (.string t) (.int .i64 i)).run Tryd.prog W = .ok (.int .u8 ((t[j]).toNat : Int)) W := by
  subst h
  rw [run_index_string (P := Tryd.prog) (w := W) 9 t .i64 (j : Int) Tryd.underlying9, dif_pos ⟨by omega, by omega⟩]
  simp
theorem rawc_rwP_0 (c : UInt8) (h : c.toNat < 33) : rwP c = none := by
  unfold rwP
  rw [if_neg (by unfold rwB; simp; omega)]
theorem rawc_rwP_1 (c : UInt8) (h : 126 < c.toNat) : rwP c = none := by
  unfold rwP
  rw [if_neg (by unfold rwB; simp; omega)]
theorem rawc_rwP_2 (c : UInt8) (h : c.toNat = 35) : rwP c = none := by
  unfold rwP
  rw [if_neg (by unfold rwB; simp; omega)]
theorem rawc_rwP_3 (c : UInt8) (h : c.toNat = 63) : rwP c = none := by
  unfold rwP
  rw [if_neg (by unfold rwB; simp; omega)]
theorem rawc_rwP_4 (c : UInt8) (h : ¬ c.toNat < 33 ∧ ¬ 126 < c.toNat ∧ ¬ c.toNat = 35 ∧ ¬ c.toNat = 37 ∧ ¬ c.toNat = 63) : rwP c = some c := by
  unfold rwP
  rw [if_pos (by unfold rwB; simp; omega)]
theorem rawc_rwQ_0 (c : UInt8) (h : c.toNat < 33) : rwQ c = none := by
  unfold rwQ
  rw [if_neg (by omega), if_neg (by unfold rwB; simp; omega)]
theorem rawc_rwQ_1 (c : UInt8) (h : 126 < c.toNat) : rwQ c = none := by
  unfold rwQ
  rw [if_neg (by omega), if_neg (by unfold rwB; simp; omega)]
theorem rawc_rwQ_2 (c : UInt8) (h : c.toNat = 35) : rwQ c = none := by
  unfold rwQ
  rw [if_neg (by omega), if_neg (by unfold rwB; simp; omega)]
theorem rawc_rwQ_3 (c : UInt8) (h : c.toNat = 43) : rwQ c = some 32 := by
  unfold rwQ
  rw [if_pos h]
theorem rawc_rwQ_4 (c : UInt8) (h : ¬ c.toNat < 33 ∧ ¬ 126 < c.toNat ∧ ¬ c.toNat = 35 ∧ ¬ c.toNat = 37 ∧ ¬ c.toNat = 43) : rwQ c = some c := by
  unfold rwQ
  rw [if_neg (by omega), if_pos (by unfold rwB; simp; omega)]

set_option maxRecDepth 100000 in
set_option maxHeartbeats 2000000 in
theorem read_path (t : ByteArray) (w : World) (hs : t.size ≤ 1048576) : Calls Tryd.prog 26 #[.string t, .int .u8 63, .bool false] w fun e w' => e = .returned (.tuple #[.string ⟨(rbE rwP t.data.toList).1.toArray⟩, .bool (rbE rwP t.data.toList).2]) ∧ Below w.heap.size w w' := by
  have HB0 : Hid (BSl w w.heap.size (.slice none 0 0) []) := BSl.nil _ _
  have HE0 : Hid (Below w.heap.size w w) := Below.refl _ _
  have HR0 := hid (RdA.start rwP t.data.toList)
  have hL : t.data.toList.length = t.size := by simp
  go_enter Tryd.func26, Tryd.ntmps26
  go_wp2
  go_loopw [8, 9] (fun v i wr => ∃ (k : Nat) (l : List UInt8), i = .int .i64 k ∧ Hid (BSl wr w.heap.size v l) ∧ Hid (Below w.heap.size w wr) ∧ Hid (RdA rwP t.data.toList l k)) (fun _ i _ => t.size - (intOf i).toNat)
  case atStart => exact ⟨0, [], rfl, HB0, HE0, HR0⟩
  case round =>
    clear HB0 HE0 HR0
    obtain ⟨k, l, rfl, HB, HE, HR⟩ := hrel
    rename World => w1
    have hkt : k ≤ t.size := by have := HR.out.1; omega
    have hle : l.length ≤ k := HR.out.2.1
    by_cases hlt : k < t.size
    · have hk0 : (0 : Int) ≤ (k : Int) := by omega
      have hk1 : (k : Int) < (t.size : Int) := by omega
      have hSZ := hid HE.out.size
      by_cases h : (t[k]).toNat = 37
      · have hn : ((t[k].toNat : Int) == 37) = true := by rw [h]; rfl
        by_cases h2 : t.size ≤ k + 2
        · have HF : Hid (rbE rwP t.data.toList = ([], false)) := HR.out.failB (by omega) (stB_cut _ t k hlt h h2)
          have hg : (t.size : Int) ≤ (k : Int) + 2 := by omega
          generalize hc : t[k] = c at *
          clear h h2 HR HB
          go_wp2
          go_ret2
          exact ⟨by rw [HF.out]; rfl, HE.out⟩
        · have g1 : k + 1 < t.size := by omega
          have g2 : k + 2 < t.size := by omega
          have HS := hid (stB_esc rwP t k hlt g1 g2 h)
          have hg : ¬ (t.size : Int) ≤ (k : Int) + 2 := by omega
          have i1 : (0 : Int) ≤ (k : Int) + 1 := by omega
          have i2 : (k : Int) + 1 < (t.size : Int) := by omega
          have i3 : (0 : Int) ≤ (k : Int) + 2 := by omega
          have i4 : (k : Int) + 2 < (t.size : Int) := by omega
          have q1 : ((k : Int) + 1).toNat = k + 1 := by omega
          have q2 : ((k : Int) + 2).toNat = k + 2 := by omega
          have v1 : IntKind.i64.wrap ((k : Int) + 1) = (k : Int) + 1 := (wrK _ (by omega) (by omega)).1
          have v2 : IntKind.i64.wrap ((k : Int) + 2) = (k : Int) + 2 := (wrK _ (by omega) (by omega)).1
          have v3 : wrap64 ((k : Int) + 1) = (k : Int) + 1 := (wrK _ (by omega) (by omega)).2
          have v4 : wrap64 ((k : Int) + 2) = (k : Int) + 2 := (wrK _ (by omega) (by omega)).2
          have N1 := hid (fun W => number_any t[k + 1] W)
          have N2 := hid (fun W => number_any t[k + 2] W)
          have X1 := hid (nm_sx t[k + 1].toNat)
          have X2 := hid (nm_sx t[k + 2].toNat)
          have x1 := sx_lt t[k + 1].toNat
          have x2 := sx_lt t[k + 2].toNat
          have HY := hid (byS_is t[k + 1] t[k + 2])
          have I1 := idxP t ((k : Int) + 1) (k + 1) g1 (by omega)
          have I2 := idxP t ((k : Int) + 2) (k + 2) g2 (by omega)
          generalize byS t[k + 1] t[k + 2] = y at *
          generalize hc : t[k] = c at *
          generalize hc1 : t[k + 1] = c1 at *
          generalize hc2 : t[k + 2] = c2 at *
          generalize sxN c1.toNat = p at *
          generalize sxN c2.toNat = q at *
          generalize nmN c1.toNat = n1 at *
          generalize nmN c2.toNat = n2 at *
          by_cases hp : p < 0
          · have HF : Hid (rbE rwP t.data.toList = ([], false)) := HR.out.failB (by omega) (by rw [HS.out, if_pos (.inl hp)])
            have hp2 : (15 : Int) < n1 := X1.out.1.2 hp
            clear HS HY HR HB X1 X2
            go_wp2_with fail
            refine (N1.out _).mono ?_
            rintro e w1 ⟨rfl, rfl⟩
            go_wp2
            go_ret2
            exact ⟨by rw [HF.out]; rfl, HE.out⟩
          · have hp2 : ¬ (15 : Int) < n1 := fun h9 => hp (X1.out.1.1 h9)
            by_cases hq : q < 0
            · have HF : Hid (rbE rwP t.data.toList = ([], false)) := HR.out.failB (by omega) (by rw [HS.out, if_pos (.inr hq)])
              have hq2 : (15 : Int) < n2 := X2.out.1.2 hq
              clear HS HY HR HB X1 X2
              go_wp2_with fail
              refine (N1.out _).mono ?_
              rintro e w1 ⟨rfl, rfl⟩
              go_wp2_with fail
              refine (N2.out _).mono ?_
              rintro e w1 ⟨rfl, rfl⟩
              go_wp2
              go_ret2
              exact ⟨by rw [HF.out]; rfl, HE.out⟩
            · have hq2 : ¬ (15 : Int) < n2 := fun h9 => hq (X2.out.1.1 h9)
              have HN := hid (HR.out.next (by omega) (by rw [HS.out, if_neg (by omega)]))
              have HRn : Hid (RdA rwP t.data.toList (l ++ [y]) (k + 3)) := HN.out.1
              have e1 := X1.out.2.1 (by omega)
              have e2 := X2.out.2.1 (by omega)
              have hy := HY.out hp hq
              have HMc : Hid (#[Value.int .u8 ((16 * n1 + n2) % 256)] = (bs [y]).toArray) := by show _ = #[Value.int .u8 (y.toNat : Int)]; rw [hy, e1, e2, show (16 * p + q) % 256 = p * 16 + q by omega]
              have hn1 := X1.out.2.2
              have hn2 := X2.out.2.2
              have hnb : 0 ≤ n1 ∧ n1 < 16 ∧ 0 ≤ n2 ∧ n2 < 16 := by omega
              obtain ⟨b1, b2, b3, b4⟩ := hnb
              have hw1 : IntKind.i64.wrap (16 * n1) = 16 * n1 := (wrK _ (by omega) (by omega)).1
              have hw2 : IntKind.i64.wrap (16 * n1 + n2) = 16 * n1 + n2 := (wrK _ (by omega) (by omega)).1
              have hw3 : wrap64 (16 * n1) = 16 * n1 := (wrK _ (by omega) (by omega)).2
              have hw4 : wrap64 (16 * n1 + n2) = 16 * n1 + n2 := (wrK _ (by omega) (by omega)).2
              have HL1 : Hid (1 = [y].length) := rfl
              have HMN : Hid ([y] ≠ []) := by show _ ≠ _; simp
              have HLL : Hid (l.length + [y].length ≤ 140737488355328) := by show _ ≤ _; simp; omega
              have HBx : Hid (∀ X, Below w.heap.size w1 (w1.alloc X).drew) := fun X => ((Below.refl _ w1).alloc hSZ.out X).drew
              clear HS HY HR HN X1 X2 hy e1 e2 hp hq
              go_wp2_with fail
              refine (N1.out _).mono ?_
              rintro e w1 ⟨rfl, rfl⟩
              go_wp2_with fail
              refine (N2.out _).mono ?_
              rintro e w1 ⟨rfl, rfl⟩
              go_wp2
              refine wp_region_held_drew (S := fun _ => True) (by kernel_rfl) trivial (fun hHeld => ?_)
              refine wpAnyH_take (i := 0) (v := ?vv1) rfl (by kernel_rfl) (by kernel_rfl) (by kernel_rfl) (fun _ _ _ h => h) (Or.inl ⟨by rfl, ?hy1⟩) (by assumption) ?rest1
              case hy1 => (intro w hSw; (try dsimp only at hSw); go_simp; first | done | with_reducible rfl)
              try simp only [Act.put, List.getElem_toArray, List.getElem_cons_succ, List.getElem_cons_zero, List.setIfInBounds_toArray, List.set_cons_zero, List.set_cons_succ]
              refine wpAnyH_take (i := 1) (v := ?vv2) rfl (by kernel_rfl) (by kernel_rfl) (by kernel_rfl) (fun _ _ _ h => h) (Or.inl ⟨by rfl, ?hy2⟩) (by assumption) ?rest2
              case hy2 => (intro w hSw; (try dsimp only at hSw); go_simp; first | done | with_reducible rfl)
              try simp only [Act.put, List.getElem_toArray, List.getElem_cons_succ, List.getElem_cons_zero, List.setIfInBounds_toArray, List.set_cons_zero, List.set_cons_succ]
              refine wpAnyH_take (i := 2) (v := ?vv3) rfl (by kernel_rfl) (by kernel_rfl) (by kernel_rfl) (fun _ _ _ h => h) (Or.inl ⟨by rfl, ?hy3⟩) (by assumption) ?rest3
              case hy3 => (intro w hSw; (try dsimp only at hSw); go_simp; first | done | with_reducible rfl)
              try simp only [Act.put, List.getElem_toArray, List.getElem_cons_succ, List.getElem_cons_zero, List.setIfInBounds_toArray, List.set_cons_zero, List.set_cons_succ]
              refine wpAnyH_take (i := 3) (v := ?vv4) rfl (by kernel_rfl) (by kernel_rfl) (by kernel_rfl) (fun _ _ _ h => h) (Or.inl ⟨by rfl, ?hy4⟩) (by assumption) ?rest4
              case hy4 => (intro w hSw; (try dsimp only at hSw); go_simp; first | done | with_reducible rfl)
              try simp only [Act.put, List.getElem_toArray, List.getElem_cons_succ, List.getElem_cons_zero, List.setIfInBounds_toArray, List.set_cons_zero, List.set_cons_succ]
              refine wpAnyH_take (i := 4) (v := ?vv5) rfl (by kernel_rfl) (by kernel_rfl) (by kernel_rfl) (fun _ _ _ h => h) (Or.inl ⟨by rfl, ?hy5⟩) (by assumption) ?rest5
              case hy5 => (intro w hSw; (try dsimp only at hSw); go_simp; first | done | with_reducible rfl)
              try simp only [Act.put, List.getElem_toArray, List.getElem_cons_succ, List.getElem_cons_zero, List.setIfInBounds_toArray, List.set_cons_zero, List.set_cons_succ]
              refine wpAnyH_take (i := 7) (v := ?vv6) rfl (by kernel_rfl) (by kernel_rfl) (by kernel_rfl) (fun _ _ _ h => h) (Or.inl ⟨by rfl, ?hy6⟩) (by assumption) ?rest6
              case hy6 => (intro w hSw; (try dsimp only at hSw); go_simp; first | done | with_reducible rfl)
              try simp only [Act.put, List.getElem_toArray, List.getElem_cons_succ, List.getElem_cons_zero, List.setIfInBounds_toArray, List.set_cons_zero, List.set_cons_succ]
              refine wpAnyH_take (i := 8) (v := ?vv7) rfl (by kernel_rfl) (by kernel_rfl) (by kernel_rfl) (fun _ _ _ h => h) (Or.inl ⟨by rfl, ?hy7⟩) (by assumption) ?rest7
              case hy7 => (intro w hSw; (try dsimp only at hSw); go_simp; first | done | with_reducible rfl)
              try simp only [Act.put, List.getElem_toArray, List.getElem_cons_succ, List.getElem_cons_zero, List.setIfInBounds_toArray, List.set_cons_zero, List.set_cons_succ]
              refine wpAnyH_take (i := 9) (v := ?vv8) rfl (by kernel_rfl) (by kernel_rfl) (by kernel_rfl) (fun _ _ _ h => h) (Or.inl ⟨by rfl, ?hy8⟩) (by assumption) ?rest8
              case hy8 => (intro w hSw; (try dsimp only at hSw); go_simp; first | done | with_reducible rfl)
              try simp only [Act.put, List.getElem_toArray, List.getElem_cons_succ, List.getElem_cons_zero, List.setIfInBounds_toArray, List.set_cons_zero, List.set_cons_succ]
              refine wpAnyH_take (i := 10) (v := ?vv9) rfl (by kernel_rfl) (by kernel_rfl) (by kernel_rfl) (fun _ _ _ h => h) (Or.inl ⟨by rfl, ?hy9⟩) (by assumption) ?rest9
              case hy9 => (intro w hSw; (try dsimp only at hSw); go_simp; first | done | with_reducible rfl)
              try simp only [Act.put, List.getElem_toArray, List.getElem_cons_succ, List.getElem_cons_zero, List.setIfInBounds_toArray, List.set_cons_zero, List.set_cons_succ]
              refine wpAnyH_ready (rs := [5]) (by kernel_rfl) (by simp) ?_
              refine AllReadyH.cons rfl (fun K hK => ?_) AllReadyH.nil
              go_simp
              refine (N1.out _).mono ?_
              rintro e w1 ⟨rfl, rfl⟩
              go_wp2_with fail
              refine hK.out _ _ trivial (fun hHeld => ?_)
              clear hK K
              try simp only [Act.put, List.getElem_toArray, List.getElem_cons_succ, List.getElem_cons_zero, List.setIfInBounds_toArray, List.set_cons_zero, List.set_cons_succ]
              refine wpAnyH_take (i := 6) (v := ?vv10) rfl (by kernel_rfl) (by kernel_rfl) (by kernel_rfl) (fun _ _ _ h => h) (Or.inl ⟨by rfl, ?hy10⟩) (by assumption) ?rest10
              case hy10 => (intro w hSw; (try dsimp only at hSw); go_simp; first | done | with_reducible rfl)
              try simp only [Act.put, List.getElem_toArray, List.getElem_cons_succ, List.getElem_cons_zero, List.setIfInBounds_toArray, List.set_cons_zero, List.set_cons_succ]
              refine wpAnyH_ready (rs := [11]) (by kernel_rfl) (by simp) ?_
              refine AllReadyH.cons rfl (fun K hK => ?_) AllReadyH.nil
              go_simp
              refine (N2.out _).mono ?_
              rintro e w1 ⟨rfl, rfl⟩
              go_wp2_with fail
              refine hK.out _ _ trivial (fun hHeld => ?_)
              clear hK K
              try simp only [Act.put, List.getElem_toArray, List.getElem_cons_succ, List.getElem_cons_zero, List.setIfInBounds_toArray, List.set_cons_zero, List.set_cons_succ]
              refine wpAnyH_take (i := 12) (v := ?vv11) rfl (by kernel_rfl) (by kernel_rfl) (by kernel_rfl) (fun _ _ _ h => h) (Or.inl ⟨by rfl, ?hy11⟩) (by assumption) ?rest11
              case hy11 => (intro w hSw; (try dsimp only at hSw); go_simp; first | done | with_reducible rfl)
              try simp only [Act.put, List.getElem_toArray, List.getElem_cons_succ, List.getElem_cons_zero, List.setIfInBounds_toArray, List.set_cons_zero, List.set_cons_succ]
              refine wpAnyH_take (i := 13) (v := ?vv12) rfl (by kernel_rfl) (by kernel_rfl) (by kernel_rfl) (fun _ _ _ h => h) (Or.inl ⟨by rfl, ?hy12⟩) (by assumption) ?rest12
              case hy12 => (intro w hSw; (try dsimp only at hSw); go_simp; first | done | with_reducible rfl)
              try simp only [Act.put, List.getElem_toArray, List.getElem_cons_succ, List.getElem_cons_zero, List.setIfInBounds_toArray, List.set_cons_zero, List.set_cons_succ]
              refine wpAnyH_ready (rs := [14]) (by kernel_rfl) (by simp) ?_
              refine AllReadyH.cons rfl (fun K hK => ?_) AllReadyH.nil
              go_simp
              refine hK.out _ _ trivial (fun hHeld => ?_)
              clear hK K
              try simp only [Act.put, List.getElem_toArray, List.getElem_cons_succ, List.getElem_cons_zero, List.setIfInBounds_toArray, List.set_cons_zero, List.set_cons_succ]
              refine wpAnyH_ready (rs := [15]) (by kernel_rfl) (by simp) ?_
              refine AllReadyH.cons rfl (fun K hK => ?_) AllReadyH.nil
              refine step_bsl (by rfl) _ _ (by rfl) w.heap.size _ l w1 [y] _ HMc.out (by rfl) (HBx.out _) 1 HL1.out (by rfl) (by rfl) HB.out hSZ.out HLL.out HMN.out ?_
              intro v1 w3 hb1 hbel1
              refine hK.out _ _ trivial (fun hHeld => ?_)
              clear hK K
              try simp only [Act.put, List.getElem_toArray, List.getElem_cons_succ, List.getElem_cons_zero, List.setIfInBounds_toArray, List.set_cons_zero, List.set_cons_succ]
              refine wpAnyH_take (i := 16) (v := ?vv13) rfl (by kernel_rfl) (by kernel_rfl) (by kernel_rfl) (fun _ _ _ h => h) (Or.inl ⟨by rfl, ?hy13⟩) (by assumption) ?rest13
              case hy13 => (intro w hSw; (try dsimp only at hSw); go_simp; first | done | with_reducible rfl)
              try simp only [Act.put, List.getElem_toArray, List.getElem_cons_succ, List.getElem_cons_zero, List.setIfInBounds_toArray, List.set_cons_zero, List.set_cons_succ]
              refine wpAnyH_done (by kernel_rfl) ?_ _
              have HB2 : Hid (BSl w3 w.heap.size v1 (l ++ [y])) := hb1
              have HE2 : Hid (Below w.heap.size w w3) := HE.out.trans hbel1
              clear hb1 hbel1 HB HE hHeld
              go_wp2
              exact ⟨⟨k + 3, l ++ [y], by go_num, HB2, HE2, HRn⟩, by simp [intOf]; omega⟩
      · have HN0 := hid (stB_raw rwP t k hlt h)
        have hcl := UInt8.toNat_lt t[k]
        generalize hc : t[k] = c at *
        generalize hn : c.toNat = n at *
        have hne37 : ((n : Int) == 37) = false := by rw [beq_eq_false_iff_ne]; omega
        by_cases g : n < 33
        · skip
          have er : rwP c = none := rawc_rwP_0 c (by omega)
          rw [er] at HN0
          have l33 : (n : Int) < 33 := by omega
          have HF : Hid (rbE rwP t.data.toList = ([], false)) := HR.out.failB (by omega) HN0.out
          clear HN0 er HR HB h hcl g
          go_wp2
          go_ret2
          exact ⟨by rw [HF.out]; rfl, HE.out⟩
        by_cases g : 126 < n
        · skip
          have er : rwP c = none := rawc_rwP_1 c (by omega)
          rw [er] at HN0
          have l33 : ¬ ((n : Int) < 33) := by omega
          have g126 : (126 : Int) < (n : Int) := by omega
          have HF : Hid (rbE rwP t.data.toList = ([], false)) := HR.out.failB (by omega) HN0.out
          clear HN0 er HR HB h hcl g
          go_wp2
          go_ret2
          exact ⟨by rw [HF.out]; rfl, HE.out⟩
        by_cases g : n = 35
        · skip
          have er : rwP c = none := rawc_rwP_2 c (by omega)
          rw [er] at HN0
          have l33 : ¬ ((n : Int) < 33) := by omega
          have g126 : ¬ ((126 : Int) < (n : Int)) := by omega
          have e35 : ((n : Int) == 35) = true := by rw [beq_iff_eq]; omega
          have HF : Hid (rbE rwP t.data.toList = ([], false)) := HR.out.failB (by omega) HN0.out
          clear HN0 er HR HB h hcl g
          go_wp2
          go_ret2
          exact ⟨by rw [HF.out]; rfl, HE.out⟩
        by_cases g : n = 63
        · skip
          have er : rwP c = none := rawc_rwP_3 c (by omega)
          rw [er] at HN0
          have l33 : ¬ ((n : Int) < 33) := by omega
          have g126 : ¬ ((126 : Int) < (n : Int)) := by omega
          have e35 : ((n : Int) == 35) = false := by rw [beq_eq_false_iff_ne]; omega
          have eM : ((n : Int) == 63) = true := by rw [beq_iff_eq]; omega
          have HF : Hid (rbE rwP t.data.toList = ([], false)) := HR.out.failB (by omega) HN0.out
          clear HN0 er HR HB h hcl g
          go_wp2
          go_ret2
          exact ⟨by rw [HF.out]; rfl, HE.out⟩
        have er : rwP c = some c := rawc_rwP_4 c (by omega)
        rw [er] at HN0
        have l33 : ¬ ((n : Int) < 33) := by omega
        have g126 : ¬ ((126 : Int) < (n : Int)) := by omega
        have e35 : ((n : Int) == 35) = false := by rw [beq_eq_false_iff_ne]; omega
        have eM : ((n : Int) == 63) = false := by rw [beq_eq_false_iff_ne]; omega
        have HN := hid (HR.out.next (by omega) HN0.out)
        have HRn : Hid (RdA rwP t.data.toList (l ++ [c]) (k + 1)) := HN.out.1
        have HMc : Hid (#[Value.int .u8 (n : Int)] = (bs [c]).toArray) := by show _ = #[Value.int .u8 ((c : UInt8).toNat : Int)]; first | rfl | rw [hn]
        have HL1 : Hid (1 = [c].length) := rfl
        have HMN : Hid ([c] ≠ []) := by show _ ≠ _; simp
        have HLL : Hid (l.length + [c].length ≤ 140737488355328) := by show _ ≤ _; simp; omega
        clear HN0 er HR HN h hcl
        go_wp2_with (at_builtin; refine wpl_bsl rfl _ _ rfl w.heap.size _ l w1 [c] _ HMc.out rfl 1 HL1.out rfl rfl HB.out hSZ.out HLL.out HMN.out ?_; intro v1 w3 hb1 hbel1; have HB2 := hid hb1; have HE2 : Hid (Below w.heap.size w w3) := HE.out.trans hbel1; clear hb1 hbel1 HB HE)
        exact ⟨⟨k + 1, l ++ [c], by go_num, HB2, HE2, HRn⟩, by simp [intOf]; omega⟩
    · have hd : decide ((k : Int) < (t.size : Int)) = false := decide_eq_false (by omega)
      have hd2 : decide (k < t.size) = false := decide_eq_false hlt
      have HF : Hid (rbE rwP t.data.toList = (l, true)) := HR.out.doneB (by omega)
      have hcv := HB.out.text
      clear HB HR
      go_wp2
      go_ret2
      exact ⟨by rw [HF.out]; rfl, HE.out⟩

set_option maxRecDepth 100000 in
set_option maxHeartbeats 2000000 in
theorem read_query (t : ByteArray) (w : World) (hs : t.size ≤ 1048576) : Calls Tryd.prog 26 #[.string t, .int .u8 0, .bool true] w fun e w' => e = .returned (.tuple #[.string ⟨(rbE rwQ t.data.toList).1.toArray⟩, .bool (rbE rwQ t.data.toList).2]) ∧ Below w.heap.size w w' := by
  have HB0 : Hid (BSl w w.heap.size (.slice none 0 0) []) := BSl.nil _ _
  have HE0 : Hid (Below w.heap.size w w) := Below.refl _ _
  have HR0 := hid (RdA.start rwQ t.data.toList)
  have hL : t.data.toList.length = t.size := by simp
  go_enter Tryd.func26, Tryd.ntmps26
  go_wp2
  go_loopw [8, 9] (fun v i wr => ∃ (k : Nat) (l : List UInt8), i = .int .i64 k ∧ Hid (BSl wr w.heap.size v l) ∧ Hid (Below w.heap.size w wr) ∧ Hid (RdA rwQ t.data.toList l k)) (fun _ i _ => t.size - (intOf i).toNat)
  case atStart => exact ⟨0, [], rfl, HB0, HE0, HR0⟩
  case round =>
    clear HB0 HE0 HR0
    obtain ⟨k, l, rfl, HB, HE, HR⟩ := hrel
    rename World => w1
    have hkt : k ≤ t.size := by have := HR.out.1; omega
    have hle : l.length ≤ k := HR.out.2.1
    by_cases hlt : k < t.size
    · have hk0 : (0 : Int) ≤ (k : Int) := by omega
      have hk1 : (k : Int) < (t.size : Int) := by omega
      have hSZ := hid HE.out.size
      by_cases h : (t[k]).toNat = 37
      · have hn : ((t[k].toNat : Int) == 37) = true := by rw [h]; rfl
        by_cases h2 : t.size ≤ k + 2
        · have HF : Hid (rbE rwQ t.data.toList = ([], false)) := HR.out.failB (by omega) (stB_cut _ t k hlt h h2)
          have hg : (t.size : Int) ≤ (k : Int) + 2 := by omega
          generalize hc : t[k] = c at *
          clear h h2 HR HB
          go_wp2
          go_ret2
          exact ⟨by rw [HF.out]; rfl, HE.out⟩
        · have g1 : k + 1 < t.size := by omega
          have g2 : k + 2 < t.size := by omega
          have HS := hid (stB_esc rwQ t k hlt g1 g2 h)
          have hg : ¬ (t.size : Int) ≤ (k : Int) + 2 := by omega
          have i1 : (0 : Int) ≤ (k : Int) + 1 := by omega
          have i2 : (k : Int) + 1 < (t.size : Int) := by omega
          have i3 : (0 : Int) ≤ (k : Int) + 2 := by omega
          have i4 : (k : Int) + 2 < (t.size : Int) := by omega
          have q1 : ((k : Int) + 1).toNat = k + 1 := by omega
          have q2 : ((k : Int) + 2).toNat = k + 2 := by omega
          have v1 : IntKind.i64.wrap ((k : Int) + 1) = (k : Int) + 1 := (wrK _ (by omega) (by omega)).1
          have v2 : IntKind.i64.wrap ((k : Int) + 2) = (k : Int) + 2 := (wrK _ (by omega) (by omega)).1
          have v3 : wrap64 ((k : Int) + 1) = (k : Int) + 1 := (wrK _ (by omega) (by omega)).2
          have v4 : wrap64 ((k : Int) + 2) = (k : Int) + 2 := (wrK _ (by omega) (by omega)).2
          have N1 := hid (fun W => number_any t[k + 1] W)
          have N2 := hid (fun W => number_any t[k + 2] W)
          have X1 := hid (nm_sx t[k + 1].toNat)
          have X2 := hid (nm_sx t[k + 2].toNat)
          have x1 := sx_lt t[k + 1].toNat
          have x2 := sx_lt t[k + 2].toNat
          have HY := hid (byS_is t[k + 1] t[k + 2])
          have I1 := idxP t ((k : Int) + 1) (k + 1) g1 (by omega)
          have I2 := idxP t ((k : Int) + 2) (k + 2) g2 (by omega)
          generalize byS t[k + 1] t[k + 2] = y at *
          generalize hc : t[k] = c at *
          generalize hc1 : t[k + 1] = c1 at *
          generalize hc2 : t[k + 2] = c2 at *
          generalize sxN c1.toNat = p at *
          generalize sxN c2.toNat = q at *
          generalize nmN c1.toNat = n1 at *
          generalize nmN c2.toNat = n2 at *
          by_cases hp : p < 0
          · have HF : Hid (rbE rwQ t.data.toList = ([], false)) := HR.out.failB (by omega) (by rw [HS.out, if_pos (.inl hp)])
            have hp2 : (15 : Int) < n1 := X1.out.1.2 hp
            clear HS HY HR HB X1 X2
            go_wp2_with fail
            refine (N1.out _).mono ?_
            rintro e w1 ⟨rfl, rfl⟩
            go_wp2
            go_ret2
            exact ⟨by rw [HF.out]; rfl, HE.out⟩
          · have hp2 : ¬ (15 : Int) < n1 := fun h9 => hp (X1.out.1.1 h9)
            by_cases hq : q < 0
            · have HF : Hid (rbE rwQ t.data.toList = ([], false)) := HR.out.failB (by omega) (by rw [HS.out, if_pos (.inr hq)])
              have hq2 : (15 : Int) < n2 := X2.out.1.2 hq
              clear HS HY HR HB X1 X2
              go_wp2_with fail
              refine (N1.out _).mono ?_
              rintro e w1 ⟨rfl, rfl⟩
              go_wp2_with fail
              refine (N2.out _).mono ?_
              rintro e w1 ⟨rfl, rfl⟩
              go_wp2
              go_ret2
              exact ⟨by rw [HF.out]; rfl, HE.out⟩
            · have hq2 : ¬ (15 : Int) < n2 := fun h9 => hq (X2.out.1.1 h9)
              have HN := hid (HR.out.next (by omega) (by rw [HS.out, if_neg (by omega)]))
              have HRn : Hid (RdA rwQ t.data.toList (l ++ [y]) (k + 3)) := HN.out.1
              have e1 := X1.out.2.1 (by omega)
              have e2 := X2.out.2.1 (by omega)
              have hy := HY.out hp hq
              have HMc : Hid (#[Value.int .u8 ((16 * n1 + n2) % 256)] = (bs [y]).toArray) := by show _ = #[Value.int .u8 (y.toNat : Int)]; rw [hy, e1, e2, show (16 * p + q) % 256 = p * 16 + q by omega]
              have hn1 := X1.out.2.2
              have hn2 := X2.out.2.2
              have hnb : 0 ≤ n1 ∧ n1 < 16 ∧ 0 ≤ n2 ∧ n2 < 16 := by omega
              obtain ⟨b1, b2, b3, b4⟩ := hnb
              have hw1 : IntKind.i64.wrap (16 * n1) = 16 * n1 := (wrK _ (by omega) (by omega)).1
              have hw2 : IntKind.i64.wrap (16 * n1 + n2) = 16 * n1 + n2 := (wrK _ (by omega) (by omega)).1
              have hw3 : wrap64 (16 * n1) = 16 * n1 := (wrK _ (by omega) (by omega)).2
              have hw4 : wrap64 (16 * n1 + n2) = 16 * n1 + n2 := (wrK _ (by omega) (by omega)).2
              have HL1 : Hid (1 = [y].length) := rfl
              have HMN : Hid ([y] ≠ []) := by show _ ≠ _; simp
              have HLL : Hid (l.length + [y].length ≤ 140737488355328) := by show _ ≤ _; simp; omega
              have HBx : Hid (∀ X, Below w.heap.size w1 (w1.alloc X).drew) := fun X => ((Below.refl _ w1).alloc hSZ.out X).drew
              clear HS HY HR HN X1 X2 hy e1 e2 hp hq
              go_wp2_with fail
              refine (N1.out _).mono ?_
              rintro e w1 ⟨rfl, rfl⟩
              go_wp2_with fail
              refine (N2.out _).mono ?_
              rintro e w1 ⟨rfl, rfl⟩
              go_wp2
              refine wp_region_held_drew (S := fun _ => True) (by kernel_rfl) trivial (fun hHeld => ?_)
              refine wpAnyH_take (i := 0) (v := ?vv1) rfl (by kernel_rfl) (by kernel_rfl) (by kernel_rfl) (fun _ _ _ h => h) (Or.inl ⟨by rfl, ?hy1⟩) (by assumption) ?rest1
              case hy1 => (intro w hSw; (try dsimp only at hSw); go_simp; first | done | with_reducible rfl)
              try simp only [Act.put, List.getElem_toArray, List.getElem_cons_succ, List.getElem_cons_zero, List.setIfInBounds_toArray, List.set_cons_zero, List.set_cons_succ]
              refine wpAnyH_take (i := 1) (v := ?vv2) rfl (by kernel_rfl) (by kernel_rfl) (by kernel_rfl) (fun _ _ _ h => h) (Or.inl ⟨by rfl, ?hy2⟩) (by assumption) ?rest2
              case hy2 => (intro w hSw; (try dsimp only at hSw); go_simp; first | done | with_reducible rfl)
              try simp only [Act.put, List.getElem_toArray, List.getElem_cons_succ, List.getElem_cons_zero, List.setIfInBounds_toArray, List.set_cons_zero, List.set_cons_succ]
              refine wpAnyH_take (i := 2) (v := ?vv3) rfl (by kernel_rfl) (by kernel_rfl) (by kernel_rfl) (fun _ _ _ h => h) (Or.inl ⟨by rfl, ?hy3⟩) (by assumption) ?rest3
              case hy3 => (intro w hSw; (try dsimp only at hSw); go_simp; first | done | with_reducible rfl)
              try simp only [Act.put, List.getElem_toArray, List.getElem_cons_succ, List.getElem_cons_zero, List.setIfInBounds_toArray, List.set_cons_zero, List.set_cons_succ]
              refine wpAnyH_take (i := 3) (v := ?vv4) rfl (by kernel_rfl) (by kernel_rfl) (by kernel_rfl) (fun _ _ _ h => h) (Or.inl ⟨by rfl, ?hy4⟩) (by assumption) ?rest4
              case hy4 => (intro w hSw; (try dsimp only at hSw); go_simp; first | done | with_reducible rfl)
              try simp only [Act.put, List.getElem_toArray, List.getElem_cons_succ, List.getElem_cons_zero, List.setIfInBounds_toArray, List.set_cons_zero, List.set_cons_succ]
              refine wpAnyH_take (i := 4) (v := ?vv5) rfl (by kernel_rfl) (by kernel_rfl) (by kernel_rfl) (fun _ _ _ h => h) (Or.inl ⟨by rfl, ?hy5⟩) (by assumption) ?rest5
              case hy5 => (intro w hSw; (try dsimp only at hSw); go_simp; first | done | with_reducible rfl)
              try simp only [Act.put, List.getElem_toArray, List.getElem_cons_succ, List.getElem_cons_zero, List.setIfInBounds_toArray, List.set_cons_zero, List.set_cons_succ]
              refine wpAnyH_take (i := 7) (v := ?vv6) rfl (by kernel_rfl) (by kernel_rfl) (by kernel_rfl) (fun _ _ _ h => h) (Or.inl ⟨by rfl, ?hy6⟩) (by assumption) ?rest6
              case hy6 => (intro w hSw; (try dsimp only at hSw); go_simp; first | done | with_reducible rfl)
              try simp only [Act.put, List.getElem_toArray, List.getElem_cons_succ, List.getElem_cons_zero, List.setIfInBounds_toArray, List.set_cons_zero, List.set_cons_succ]
              refine wpAnyH_take (i := 8) (v := ?vv7) rfl (by kernel_rfl) (by kernel_rfl) (by kernel_rfl) (fun _ _ _ h => h) (Or.inl ⟨by rfl, ?hy7⟩) (by assumption) ?rest7
              case hy7 => (intro w hSw; (try dsimp only at hSw); go_simp; first | done | with_reducible rfl)
              try simp only [Act.put, List.getElem_toArray, List.getElem_cons_succ, List.getElem_cons_zero, List.setIfInBounds_toArray, List.set_cons_zero, List.set_cons_succ]
              refine wpAnyH_take (i := 9) (v := ?vv8) rfl (by kernel_rfl) (by kernel_rfl) (by kernel_rfl) (fun _ _ _ h => h) (Or.inl ⟨by rfl, ?hy8⟩) (by assumption) ?rest8
              case hy8 => (intro w hSw; (try dsimp only at hSw); go_simp; first | done | with_reducible rfl)
              try simp only [Act.put, List.getElem_toArray, List.getElem_cons_succ, List.getElem_cons_zero, List.setIfInBounds_toArray, List.set_cons_zero, List.set_cons_succ]
              refine wpAnyH_take (i := 10) (v := ?vv9) rfl (by kernel_rfl) (by kernel_rfl) (by kernel_rfl) (fun _ _ _ h => h) (Or.inl ⟨by rfl, ?hy9⟩) (by assumption) ?rest9
              case hy9 => (intro w hSw; (try dsimp only at hSw); go_simp; first | done | with_reducible rfl)
              try simp only [Act.put, List.getElem_toArray, List.getElem_cons_succ, List.getElem_cons_zero, List.setIfInBounds_toArray, List.set_cons_zero, List.set_cons_succ]
              refine wpAnyH_ready (rs := [5]) (by kernel_rfl) (by simp) ?_
              refine AllReadyH.cons rfl (fun K hK => ?_) AllReadyH.nil
              go_simp
              refine (N1.out _).mono ?_
              rintro e w1 ⟨rfl, rfl⟩
              go_wp2_with fail
              refine hK.out _ _ trivial (fun hHeld => ?_)
              clear hK K
              try simp only [Act.put, List.getElem_toArray, List.getElem_cons_succ, List.getElem_cons_zero, List.setIfInBounds_toArray, List.set_cons_zero, List.set_cons_succ]
              refine wpAnyH_take (i := 6) (v := ?vv10) rfl (by kernel_rfl) (by kernel_rfl) (by kernel_rfl) (fun _ _ _ h => h) (Or.inl ⟨by rfl, ?hy10⟩) (by assumption) ?rest10
              case hy10 => (intro w hSw; (try dsimp only at hSw); go_simp; first | done | with_reducible rfl)
              try simp only [Act.put, List.getElem_toArray, List.getElem_cons_succ, List.getElem_cons_zero, List.setIfInBounds_toArray, List.set_cons_zero, List.set_cons_succ]
              refine wpAnyH_ready (rs := [11]) (by kernel_rfl) (by simp) ?_
              refine AllReadyH.cons rfl (fun K hK => ?_) AllReadyH.nil
              go_simp
              refine (N2.out _).mono ?_
              rintro e w1 ⟨rfl, rfl⟩
              go_wp2_with fail
              refine hK.out _ _ trivial (fun hHeld => ?_)
              clear hK K
              try simp only [Act.put, List.getElem_toArray, List.getElem_cons_succ, List.getElem_cons_zero, List.setIfInBounds_toArray, List.set_cons_zero, List.set_cons_succ]
              refine wpAnyH_take (i := 12) (v := ?vv11) rfl (by kernel_rfl) (by kernel_rfl) (by kernel_rfl) (fun _ _ _ h => h) (Or.inl ⟨by rfl, ?hy11⟩) (by assumption) ?rest11
              case hy11 => (intro w hSw; (try dsimp only at hSw); go_simp; first | done | with_reducible rfl)
              try simp only [Act.put, List.getElem_toArray, List.getElem_cons_succ, List.getElem_cons_zero, List.setIfInBounds_toArray, List.set_cons_zero, List.set_cons_succ]
              refine wpAnyH_take (i := 13) (v := ?vv12) rfl (by kernel_rfl) (by kernel_rfl) (by kernel_rfl) (fun _ _ _ h => h) (Or.inl ⟨by rfl, ?hy12⟩) (by assumption) ?rest12
              case hy12 => (intro w hSw; (try dsimp only at hSw); go_simp; first | done | with_reducible rfl)
              try simp only [Act.put, List.getElem_toArray, List.getElem_cons_succ, List.getElem_cons_zero, List.setIfInBounds_toArray, List.set_cons_zero, List.set_cons_succ]
              refine wpAnyH_ready (rs := [14]) (by kernel_rfl) (by simp) ?_
              refine AllReadyH.cons rfl (fun K hK => ?_) AllReadyH.nil
              go_simp
              refine hK.out _ _ trivial (fun hHeld => ?_)
              clear hK K
              try simp only [Act.put, List.getElem_toArray, List.getElem_cons_succ, List.getElem_cons_zero, List.setIfInBounds_toArray, List.set_cons_zero, List.set_cons_succ]
              refine wpAnyH_ready (rs := [15]) (by kernel_rfl) (by simp) ?_
              refine AllReadyH.cons rfl (fun K hK => ?_) AllReadyH.nil
              refine step_bsl (by rfl) _ _ (by rfl) w.heap.size _ l w1 [y] _ HMc.out (by rfl) (HBx.out _) 1 HL1.out (by rfl) (by rfl) HB.out hSZ.out HLL.out HMN.out ?_
              intro v1 w3 hb1 hbel1
              refine hK.out _ _ trivial (fun hHeld => ?_)
              clear hK K
              try simp only [Act.put, List.getElem_toArray, List.getElem_cons_succ, List.getElem_cons_zero, List.setIfInBounds_toArray, List.set_cons_zero, List.set_cons_succ]
              refine wpAnyH_take (i := 16) (v := ?vv13) rfl (by kernel_rfl) (by kernel_rfl) (by kernel_rfl) (fun _ _ _ h => h) (Or.inl ⟨by rfl, ?hy13⟩) (by assumption) ?rest13
              case hy13 => (intro w hSw; (try dsimp only at hSw); go_simp; first | done | with_reducible rfl)
              try simp only [Act.put, List.getElem_toArray, List.getElem_cons_succ, List.getElem_cons_zero, List.setIfInBounds_toArray, List.set_cons_zero, List.set_cons_succ]
              refine wpAnyH_done (by kernel_rfl) ?_ _
              have HB2 : Hid (BSl w3 w.heap.size v1 (l ++ [y])) := hb1
              have HE2 : Hid (Below w.heap.size w w3) := HE.out.trans hbel1
              clear hb1 hbel1 HB HE hHeld
              go_wp2
              exact ⟨⟨k + 3, l ++ [y], by go_num, HB2, HE2, HRn⟩, by simp [intOf]; omega⟩
      · have HN0 := hid (stB_raw rwQ t k hlt h)
        have hcl := UInt8.toNat_lt t[k]
        generalize hc : t[k] = c at *
        generalize hn : c.toNat = n at *
        have hne37 : ((n : Int) == 37) = false := by rw [beq_eq_false_iff_ne]; omega
        by_cases g : n < 33
        · skip
          have er : rwQ c = none := rawc_rwQ_0 c (by omega)
          rw [er] at HN0
          have l33 : (n : Int) < 33 := by omega
          have HF : Hid (rbE rwQ t.data.toList = ([], false)) := HR.out.failB (by omega) HN0.out
          clear HN0 er HR HB h hcl g
          go_wp2
          go_ret2
          exact ⟨by rw [HF.out]; rfl, HE.out⟩
        by_cases g : 126 < n
        · skip
          have er : rwQ c = none := rawc_rwQ_1 c (by omega)
          rw [er] at HN0
          have l33 : ¬ ((n : Int) < 33) := by omega
          have g126 : (126 : Int) < (n : Int) := by omega
          have HF : Hid (rbE rwQ t.data.toList = ([], false)) := HR.out.failB (by omega) HN0.out
          clear HN0 er HR HB h hcl g
          go_wp2
          go_ret2
          exact ⟨by rw [HF.out]; rfl, HE.out⟩
        by_cases g : n = 35
        · skip
          have er : rwQ c = none := rawc_rwQ_2 c (by omega)
          rw [er] at HN0
          have l33 : ¬ ((n : Int) < 33) := by omega
          have g126 : ¬ ((126 : Int) < (n : Int)) := by omega
          have e35 : ((n : Int) == 35) = true := by rw [beq_iff_eq]; omega
          have HF : Hid (rbE rwQ t.data.toList = ([], false)) := HR.out.failB (by omega) HN0.out
          clear HN0 er HR HB h hcl g
          go_wp2
          go_ret2
          exact ⟨by rw [HF.out]; rfl, HE.out⟩
        by_cases g : n = 43
        · skip
          have er : rwQ c = some 32 := rawc_rwQ_3 c (by omega)
          rw [er] at HN0
          have l33 : ¬ ((n : Int) < 33) := by omega
          have g126 : ¬ ((126 : Int) < (n : Int)) := by omega
          have e35 : ((n : Int) == 35) = false := by rw [beq_eq_false_iff_ne]; omega
          have eM : ((n : Int) == 0) = false := by rw [beq_eq_false_iff_ne]; omega
          have e43 : ((n : Int) == 43) = true := by rw [beq_iff_eq]; omega
          have HN := hid (HR.out.next (by omega) HN0.out)
          have HRn : Hid (RdA rwQ t.data.toList (l ++ [(32 : UInt8)]) (k + 1)) := HN.out.1
          have HMc : Hid (#[Value.int .u8 32] = (bs [(32 : UInt8)]).toArray) := by show _ = #[Value.int .u8 (((32 : UInt8) : UInt8).toNat : Int)]; first | rfl | rw [hn]
          have HL1 : Hid (1 = [(32 : UInt8)].length) := rfl
          have HMN : Hid ([(32 : UInt8)] ≠ []) := by show _ ≠ _; simp
          have HLL : Hid (l.length + [(32 : UInt8)].length ≤ 140737488355328) := by show _ ≤ _; simp; omega
          clear HN0 er HR HN h hcl g
          go_wp2_with (at_builtin; refine wpl_bsl rfl _ _ rfl w.heap.size _ l w1 [(32 : UInt8)] _ HMc.out rfl 1 HL1.out rfl rfl HB.out hSZ.out HLL.out HMN.out ?_; intro v1 w3 hb1 hbel1; have HB2 := hid hb1; have HE2 : Hid (Below w.heap.size w w3) := HE.out.trans hbel1; clear hb1 hbel1 HB HE)
          exact ⟨⟨k + 1, l ++ [(32 : UInt8)], by go_num, HB2, HE2, HRn⟩, by simp [intOf]; omega⟩
        have er : rwQ c = some c := rawc_rwQ_4 c (by omega)
        rw [er] at HN0
        have l33 : ¬ ((n : Int) < 33) := by omega
        have g126 : ¬ ((126 : Int) < (n : Int)) := by omega
        have e35 : ((n : Int) == 35) = false := by rw [beq_eq_false_iff_ne]; omega
        have eM : ((n : Int) == 0) = false := by rw [beq_eq_false_iff_ne]; omega
        have e43 : ((n : Int) == 43) = false := by rw [beq_eq_false_iff_ne]; omega
        have HN := hid (HR.out.next (by omega) HN0.out)
        have HRn : Hid (RdA rwQ t.data.toList (l ++ [c]) (k + 1)) := HN.out.1
        have HMc : Hid (#[Value.int .u8 (n : Int)] = (bs [c]).toArray) := by show _ = #[Value.int .u8 ((c : UInt8).toNat : Int)]; first | rfl | rw [hn]
        have HL1 : Hid (1 = [c].length) := rfl
        have HMN : Hid ([c] ≠ []) := by show _ ≠ _; simp
        have HLL : Hid (l.length + [c].length ≤ 140737488355328) := by show _ ≤ _; simp; omega
        clear HN0 er HR HN h hcl
        go_wp2_with (at_builtin; refine wpl_bsl rfl _ _ rfl w.heap.size _ l w1 [c] _ HMc.out rfl 1 HL1.out rfl rfl HB.out hSZ.out HLL.out HMN.out ?_; intro v1 w3 hb1 hbel1; have HB2 := hid hb1; have HE2 : Hid (Below w.heap.size w w3) := HE.out.trans hbel1; clear hb1 hbel1 HB HE)
        exact ⟨⟨k + 1, l ++ [c], by go_num, HB2, HE2, HRn⟩, by simp [intOf]; omega⟩
    · have hd : decide ((k : Int) < (t.size : Int)) = false := decide_eq_false (by omega)
      have hd2 : decide (k < t.size) = false := decide_eq_false hlt
      have HF : Hid (rbE rwQ t.data.toList = (l, true)) := HR.out.doneB (by omega)
      have hcv := HB.out.text
      clear HB HR
      go_wp2
      go_ret2
      exact ⟨by rw [HF.out]; rfl, HE.out⟩

/-- what Unpath answers, as the document's -/
theorem rb_bo (raw : UInt8 → Option UInt8) (t : List UInt8) : boE raw t = if (rbE raw t).2 then ((rbE raw t).1, 0) else ([], 3) := by
  unfold boE rbE
  cases rdE raw t <;> rfl
theorem rb_no (raw : UInt8 → Option UInt8) (t : List UInt8) (h : (rbE raw t).2 = false) : boE raw t = ([], 3) := by rw [rb_bo, h]; rfl
theorem rb_ok (raw : UInt8 → Option UInt8) (t : List UInt8) (h : (rbE raw t).2 = true) : boE raw t = ((rbE raw t).1, 0) := by rw [rb_bo, h]; rfl
set_option maxRecDepth 100000 in
set_option maxHeartbeats 1000000 in
theorem runpath_any (t : ByteArray) (w : World) (hs : t.size ≤ 1048576) : Calls Tryd.prog 10 #[.string t] w fun e w' => e = .returned (.tuple #[.string ⟨(boE rwP t.data.toList).1.toArray⟩, .int .i64 (boE rwP t.data.toList).2]) ∧ Below w.heap.size w w' := by
  have Q := hid (read_path t w hs)
  have H1 := hid (rb_no rwP t.data.toList)
  have H2 := hid (rb_ok rwP t.data.toList)
  generalize boE rwP t.data.toList = B at *
  generalize rbE rwP t.data.toList = R at *
  obtain ⟨s, b⟩ := R
  obtain hb | hb : b = false ∨ b = true := by cases b <;> simp
  · subst hb
    have HB := hid (H1.out rfl)
    clear H1 H2
    go_enter Tryd.func10, Tryd.ntmps10
    go_wp2_with fail
    refine Q.out.mono ?_
    rintro e w2 ⟨rfl, hb⟩
    have HE := hid hb
    clear Q hb
    go_wp2
    go_ret2
    exact ⟨by rw [HB.out]; rfl, HE.out⟩
  · subst hb
    have HB := hid (H2.out rfl)
    clear H1 H2
    go_enter Tryd.func10, Tryd.ntmps10
    go_wp2_with fail
    refine Q.out.mono ?_
    rintro e w2 ⟨rfl, hb⟩
    have HE := hid hb
    clear Q hb
    go_wp2
    go_ret2
    exact ⟨by rw [HB.out]; rfl, HE.out⟩
end Go.Proofs.YtnohkhgoejjfhaaDoor
