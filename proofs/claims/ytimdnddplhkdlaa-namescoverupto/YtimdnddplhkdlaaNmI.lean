/- The item of a key, as the program finds it. -/
import Derived.Test.YtimdnddplhkdlaaNmQ
import Derived.Test.YtimdnddplhkdlaaGApp
namespace Go.Proofs.Ytimdnddplhkdlaa
open Go.RowKit Go.Shelf Go.Maps
set_option linter.unusedVariables false
set_option linter.unusedSimpArgs false

abbrev tb (l : Bs) : ByteArray := ⟨l.toArray⟩
theorem tb_list (l : Bs) : (tb l).data.toList = l := by simp
theorem tb_of (s : ByteArray) : tb s.data.toList = s := by apply ByteArray.ext; simp
theorem tb_size (l : Bs) : (tb l).size = l.length := by show l.toArray.size = _; simp
theorem tb_toList (a : Bs) : (tb a).toList = a := by rw [ByteArray.toList_eq, tb_list]
theorem kp_drewN (S : Nat → Prop) (w : World) : ∀ n, Keep S w (w.drewN n) := fun n => ⟨rfl, rfl, rfl, Nat.le_refl _, fun _ _ _ => rfl⟩
/-- an item's two cells -/
def itC1 (x : It) : List Value := [.string (tb x.1), .bool x.2]
def itC (l : List It) : List Value := l.flatMap itC1
theorem itC_len (l : List It) : (itC l).length = l.length * 2 := by
  induction l with
  | nil => rfl
  | cons x r ih => simp [itC, itC1] at ih ⊢; omega
theorem itC_app (l : List It) (x : It) : itC (l ++ [x]) = itC l ++ itC1 x := by simp [itC]
theorem itC1_one (x : It) : ∀ u ∈ itC1 x, u.oneCell' = true := by
  intro u hu
  simp [itC1] at hu
  rcases hu with rfl | rfl <;> rfl
theorem itC_one (l : List It) : ∀ u ∈ itC l, u.oneCell' = true := by
  intro u hu
  obtain ⟨x, _, hx⟩ := List.mem_flatMap.1 hu
  exact itC1_one x u hx
theorem itC_get : ∀ (A : List It) (i : Nat) (h : i < A.length) (j : Nat), j < 2 → (itC A)[i * 2 + j]? = (itC1 A[i])[j]?
  | x :: r, 0, _, j, hj => by
    show (itC1 x ++ itC r)[0 * 2 + j]? = _
    rw [List.getElem?_append_left (by simp [itC1]; omega)]
    simp
  | x :: r, i + 1, h, j, hj => by
    show (itC1 x ++ itC r)[(i + 1) * 2 + j]? = _
    rw [List.getElem?_append_right (by simp [itC1]; omega), show (i + 1) * 2 + j - (itC1 x).length = i * 2 + j by simp [itC1]; omega]
    exact itC_get r i (by simpa using h) j hj

theorem cut_all (s d : Bs) (w : World) (hm : MaxL w) (hs : s.length < 4294967281) : Calls Try.prog 42 #[.string (tb s), .string (tb d)] w fun e w' => e = .returned (.tuple #[.string (tb (Lib.cut s d).1), .string (tb (Lib.cut s d).2.1), .bool (Lib.cut s d).2.2]) ∧ Keep (fun _ => False) w w' := by
  obtain ⟨m, hm⟩ := hm
  have := Any.strings_Cut { cut2Laid with } (tb s) (tb d) m w (by rw [tb_size]; exact hs) hm
  rw [tb_list, tb_list] at this
  exact this.mono fun e w' ⟨he, n, hw⟩ => ⟨he, hw ▸ kp_drewN _ w n⟩
theorem cutP_all (s p : Bs) (w : World) : Calls Try.prog 33 #[.string (tb s), .string (tb p)] w fun e w' => e = .returned (.tuple #[.string (tb (if p.isPrefixOf s then s.drop p.length else s)), .bool (p.isPrefixOf s)]) ∧ w' = w := by
  have := Any.strings_CutPrefix cutLaid (tb s) (tb p) w
  rw [tb_list, tb_list] at this
  exact this
theorem trimS_all (s p : Bs) (w : World) (hs : s.length ≤ 9223372036854775807) : Calls Try.prog 43 #[.string (tb s), .string (tb p)] w fun e w' => e = .returned (.string (tb (Lib.trimSuffix s p))) ∧ w' = w := by
  have := Any.strings_TrimSuffix trimSLaid (tb s) (tb p) w (by rw [tb_size]; exact hs)
  rw [tb_list, tb_list] at this
  exact this
/-- what is cut off a folder's key -/
theorem trim_folder {p d k : Bs} (hp : p.isPrefixOf k = true) (h : hasD p d k = true) : (Lib.cut (k.drop p.length) d).2.2 = true ∧ Lib.trimSuffix k (Lib.cut (k.drop p.length) d).2.1 = k.take (endD p d k) := by
  have h2 := (of_decide_eq_true h).2
  unfold Lib.cut
  rw [if_pos h2]
  refine ⟨rfl, ?_⟩
  simp only
  have e1 : (k.drop p.length).drop ((Lib.index (k.drop p.length) d).toNat + d.length) = k.drop (endD p d k) := by
    rw [List.drop_drop]
    unfold endD
    rw [Nat.add_assoc]
  rw [e1]
  unfold Lib.trimSuffix Lib.hasSuffix
  rw [if_pos (by rw [List.isSuffixOf_iff_suffix]; exact List.drop_suffix _ _)]
  have hl := endD_le hp h
  rw [List.length_drop, show k.length - (k.length - endD p d k) = endD p d k by omega]
theorem cut_not {p d k : Bs} (h : hasD p d k = false) : (Lib.cut (k.drop p.length) d).2.2 = false ∨ d = [] := by
  by_cases hd : d = []
  · exact .inr hd
  · left
    unfold Lib.cut
    rw [if_neg]
    intro h2
    unfold hasD at h
    rw [decide_eq_true ⟨hd, h2⟩] at h
    cases h
set_option maxRecDepth 100000 in
set_option maxHeartbeats 1000000 in
theorem itemOf_any (p d k : Bs) (w : World) (hp : p.isPrefixOf k = true) (hm : MaxL w) (hs : k.length ≤ 2147483648) : Calls Try.prog 34 #[.string (tb k), .string (tb (k.drop p.length)), .string (tb d)] w fun e w' => e = .returned (.agg #[.string (tb (itK p d k).1), .bool (itK p d k).2]) ∧ Keep (fun _ => False) w w' := by
  have kA := keep_alloc (fun _ => False) w (.cells #[.string ⟨#[]⟩, .bool false] 39)
  have HC := hid (cut_all (k.drop p.length) d _ (hm.keep kA) (by rw [List.length_drop]; omega))
  have HR : Hid (RowIs (w.alloc (.cells #[.string ⟨#[]⟩, .bool false] 39)) w.heap.size [.string ⟨#[]⟩, .bool false] 39) := heap_alloc_new _ _
  have HK := hid kA
  clear hm kA
  cases hh : hasD p d k with
  | false =>
    have HI : Hid (itK p d k = (k, false)) := by show _ = _; unfold itK; rw [hh]; rfl
    rw [HI.out]
    have hq := cut_not hh
    generalize Lib.cut (k.drop p.length) d = C at *
    obtain ⟨C1, C2, C3⟩ := C
    simp only at HC hq ⊢
    have hd0 : ((tb d).toList == []) = decide (d = []) := by rw [tb_toList]; cases d <;> rfl
    generalize tb (k.drop p.length) = R at *
    generalize tb k = KK at *
    clear HI hh hp hs
    have hq2 : C3 = false ∨ (C3 = true ∧ ((tb d).toList == []) = true) := by
      cases C3 with
      | false => exact .inl rfl
      | true =>
        rcases hq with h | h
        · cases h
        · exact .inr ⟨rfl, by rw [hd0, decide_eq_true h]⟩
    clear hq hd0
    generalize tb d = D at *
    rcases hq2 with rfl | ⟨rfl, hd1⟩
    · go_enter Try.func34, Try.ntmps34
      go_wp2_with fail
      refine HC.out.mono ?_
      rintro e w2 ⟨rfl, hk2⟩
      have HR2 := hid (HR.out.keep hk2 (fun h => h))
      have f0 := HR2.out.frozen (o := 0)
      have f1 := HR2.out.frozen (o := 1)
      have HR3 := hid ((HR2.out.set 0 (.string KK)).set 1 (.bool false))
      have c0 := HR2.out.cellAt (o := 0) rfl
      have c1 := HR2.out.cellAt (o := 1) rfl
      have HK3 : Hid (Keep (fun _ => False) w ((w2.setCell ⟨w.heap.size, 0, none⟩ (.string KK)).setCell ⟨w.heap.size, 1, none⟩ (.bool false))) := ((HK.out.trans hk2).then (keep_setCell _ _ _ _) (fun j hj e => by omega)).then (keep_setCell _ _ _ _) (fun j hj e => by omega)
      clear hk2 HR HC HK
      go_wp2
      refine bodyPost_ret (v := .agg #[.string KK, .bool false]) (results_cell_row (p := 6) rfl _ _ w.heap.size 39 #[.string KK, .bool false] (0, 0) _ rfl HR3.out Try.underlying39 rfl (by kernel_rfl)) rfl ⟨rfl, HK3.out⟩
    · go_enter Try.func34, Try.ntmps34
      go_wp2_with fail
      refine HC.out.mono ?_
      rintro e w2 ⟨rfl, hk2⟩
      have HR2 := hid (HR.out.keep hk2 (fun h => h))
      have f0 := HR2.out.frozen (o := 0)
      have f1 := HR2.out.frozen (o := 1)
      have HR3 := hid ((HR2.out.set 0 (.string KK)).set 1 (.bool false))
      have c0 := HR2.out.cellAt (o := 0) rfl
      have c1 := HR2.out.cellAt (o := 1) rfl
      have HK3 : Hid (Keep (fun _ => False) w ((w2.setCell ⟨w.heap.size, 0, none⟩ (.string KK)).setCell ⟨w.heap.size, 1, none⟩ (.bool false))) := ((HK.out.trans hk2).then (keep_setCell _ _ _ _) (fun j hj e => by omega)).then (keep_setCell _ _ _ _) (fun j hj e => by omega)
      clear hk2 HR HC HK
      go_wp2
      refine bodyPost_ret (v := .agg #[.string KK, .bool false]) (results_cell_row (p := 6) rfl _ _ w.heap.size 39 #[.string KK, .bool false] (0, 0) _ rfl HR3.out Try.underlying39 rfl (by kernel_rfl)) rfl ⟨rfl, HK3.out⟩
  | true =>
    have HI : Hid (itK p d k = (k.take (endD p d k), true)) := by show _ = _; unfold itK; rw [hh]; rfl
    rw [HI.out]
    obtain ⟨hq, ht⟩ := trim_folder hp hh
    have hdn : d ≠ [] := (of_decide_eq_true hh).1
    generalize Lib.cut (k.drop p.length) d = C at *
    obtain ⟨C1, C2, C3⟩ := C
    simp only at HC hq ht ⊢
    subst hq
    have HT : Hid (∀ W, Calls Try.prog 43 #[.string (tb k), .string (tb C2)] W fun e w' => e = .returned (.string (tb (k.take (endD p d k)))) ∧ w' = W) := fun W => by
      have := trimS_all k C2 W (by omega)
      rw [ht] at this
      exact this
    have hd1 : ((tb d).toList == []) = false := by rw [tb_toList]; cases d with
      | nil => exact absurd rfl hdn
      | cons _ _ => rfl
    have hd2 : ¬ (tb d).toList = [] := by rw [tb_toList]; exact hdn
    clear ht hdn hh HI hp hs
    generalize k.take (endD p d k) = NM at *
    generalize tb (k.drop p.length) = R at *
    generalize tb NM = NN at *
    generalize tb k = KK at *
    generalize tb d = D at *
    go_enter Try.func34, Try.ntmps34
    go_wp2_with fail
    refine HC.out.mono ?_
    rintro e w2 ⟨rfl, hk2⟩
    have HR2 := hid (HR.out.keep hk2 (fun h => h))
    have f0 := HR2.out.frozen (o := 0)
    have f1 := HR2.out.frozen (o := 1)
    have HR3 := hid ((HR2.out.set 0 (.string NN)).set 1 (.bool true))
    have c0 := HR2.out.cellAt (o := 0) rfl
    have c1 := HR2.out.cellAt (o := 1) rfl
    have HK3 : Hid (Keep (fun _ => False) w ((w2.setCell ⟨w.heap.size, 0, none⟩ (.string NN)).setCell ⟨w.heap.size, 1, none⟩ (.bool true))) := ((HK.out.trans hk2).then (keep_setCell _ _ _ _) (fun j hj e => by omega)).then (keep_setCell _ _ _ _) (fun j hj e => by omega)
    have HT2 := hid (HT.out w2)
    clear hk2 HR HC HK HT
    go_wp2_with fail
    refine HT2.out.mono ?_
    rintro e w3 ⟨rfl, rfl⟩
    go_wp2
    refine bodyPost_ret (v := .agg #[.string NN, .bool true]) (results_cell_row (p := 6) rfl _ _ w.heap.size 39 #[.string NN, .bool true] (0, 0) _ rfl HR3.out Try.underlying39 rfl (by kernel_rfl)) rfl ⟨rfl, HK3.out⟩
end Go.Proofs.Ytimdnddplhkdlaa
