/- Items are sorted by their names. -/
import Derived.Test.YtimdnddplhkdlaaNmB
import Derived.Test.YtimdnddplhkdlaaLayF
namespace Go.Proofs.Ytimdnddplhkdlaa
open Go.RowKit Go.Shelf Go.Maps Go.Sort
set_option linter.unusedVariables false
set_option linter.unusedSimpArgs false

/-- how two items are compared -/
def cmpI (x y : It) : Int := Lib.compareBytes x.1 y.1
theorem ltI (x y : It) : ltOf cmpI x y = bytesBefore x.1 y.1 := by
  unfold ltOf cmpI
  exact cmp_before _ _
theorem swoI : SWO (ltOf cmpI) where
  irrefl x := by rw [ltI, WideAt.bytes_irrefl]
  trans x y z h1 h2 := by rw [ltI] at *; exact WideShapes.bytes_trans _ _ _ h1 h2
  ntrans x y z h1 h2 := by
    rw [ltI] at *
    cases h : bytesBefore x.1 z.1 with
    | false => rfl
    | true =>
      by_cases e : x.1 = y.1
      · rw [← e, h] at h2; cases h2
      · rcases WideAt.bytes_total _ _ e with e2 | e2
        · rw [e2] at h1; cases h1
        · rw [WideShapes.bytes_trans _ _ _ e2 h] at h2; cases h2
set_option maxRecDepth 100000 in
set_option maxHeartbeats 1000000 in
theorem fold1_any (x y : It) (W : World) : Calls Try.prog 27 #[.agg #[.string (tb x.1), .bool x.2], .agg #[.string (tb y.1), .bool y.2]] W fun e w' => e = .returned (.int .i64 (cmpI x y)) ∧ ∃ q os', w' = grow (W.drewN q) os' := by
  have hcon : Hid (∀ W', Calls Try.prog 28 #[.string (tb x.1), .string (tb y.1)] W' fun e w' => e = .returned (.int .i64 (cmpI x y)) ∧ w' = W') := fun W' => by
    have := Any.strings_Compare compareLaid (tb x.1) (tb y.1) W'
    rw [tb_list, tb_list] at this
    exact this
  generalize cmpI x y = r at hcon ⊢
  obtain ⟨x1, x2⟩ := x
  obtain ⟨y1, y2⟩ := y
  simp only at hcon ⊢
  generalize tb x1 = X at *
  generalize tb y1 = Y at *
  go_enter Try.func27, Try.ntmps27
  go_wp2_with (go_at_call 28; refine (hcon.out _).mono ?_; rintro e w' ⟨rfl, rfl⟩)
  go_ret
  exact ⟨rfl, 0, _, by rw [alloc_eq_grow, alloc_eq_grow, grow_grow]; rfl⟩
theorem flat_it (d : Array It) (j : Nat) (hj : j < d.size * 2) : (itC d.toList)[j]? = some (flatK itC1 2 d)[j]! := by
  have hi : j / 2 < d.toList.length := by rw [Array.length_toList]; omega
  have h2 : j % 2 < 2 := Nat.mod_lt _ (by omega)
  have := itC_get d.toList (j / 2) hi (j % 2) h2
  rw [show j / 2 * 2 + j % 2 = j by omega] at this
  rw [this, get_flatK itC1 2 d j hj]
  have hd : d[j / 2]! = d.toList[j / 2] := by
    rw [getElem!_pos d (j / 2) (by simpa using hi)]
    simp
  rw [hd]
  have hl : j % 2 < (itC1 d.toList[j / 2]).length := by simp [itC1]; exact h2
  rw [List.getElem?_eq_getElem hl]
  exact congrArg some (getElem!_pos (itC1 d.toList[j / 2]) (j % 2) hl).symm
theorem sortI_none (p : Option Addr) (cap : Nat) (fv : Value) (w : World) : Calls Try.prog 26 #[.slice p 0 cap, fv] w fun e w' => e = .returned (.tuple #[]) ∧ w' = w :=
  AnyF.slices_SortFunc_none sortFLaid p cap fv w
theorem sortI_some (g cap : Nat) (l : List It) (w : World) (hc : ∀ j u, (itC l)[j]? = some u → w.cell? ⟨g, j, none⟩ = some u) (hf : ∀ j, j < (itC l).length → w.frozen? ⟨g, j, none⟩ = false) (hg : g < w.heap.size) (hl : l.length ≤ 1048576) :
    Calls Try.prog 26 #[.slice (some ⟨g, 0, none⟩) l.length cap, .func (.func 27) #[] #[]] w fun e w' => e = .returned (.tuple #[]) ∧ ∃ m, l.Perm m ∧ m.Pairwise (fun x y => bytesBefore y.1 x.1 = false) ∧ (∀ j u, (itC m)[j]? = some u → w'.cell? ⟨g, j, none⟩ = some u) ∧ Keep (· = g) w w' := by
  have eg : ∀ args w, (callFunc 27 args).run Try.prog w = .ok (.enter 27 args) w := enters_of Try.func27 (by kernel_rfl) rfl
  have hH : HoldsK itC1 2 w g 0 l.toArray := fun j hj => by
    rw [size_flatK] at hj
    have := flat_it l.toArray j hj
    rw [List.toList_toArray] at this
    rw [Nat.zero_add]
    exact ⟨hc j _ this, hf j (by rw [itC_len]; simpa using hj)⟩
  have hcmp : CmpLays Try.prog 27 #[] itC1 2 cmpI g 0 l.toArray.size w := fun _ _ _ _ x y => fold1_any x y _
  have hs : l.toArray.size = l.length := by simp
  have := AnyQ.slices_SortFunc sortFLaid 2 Try.isAgg39 Try.sizeOf39 itC1 (fun _ => rfl) itC1_one cmpI swoI 27 #[] g 0 cap l.toArray w eg hcmp hH hg (by rw [hs]; omega)
  rw [hs] at this
  refine this.mono fun e w' ⟨he, d', n, os, hP, hS, hw⟩ => ⟨he, d'.toList, ?_, ?_, ?_, ?_⟩
  · obtain ⟨h1, _, h2⟩ := hP
    rw [hs] at h1
    have e1 : d'.extract 0 l.length = d' := by rw [← h1]; simp
    have e2 : l.toArray.extract 0 l.length = l.toArray := by rw [← hs]; simp
    rw [e1, e2, List.toList_toArray] at h2
    exact h2.symm
  · rw [List.pairwise_iff_getElem]
    intro i j hi hj hij
    have := hS i j (Nat.zero_le _) hij (by have := hP.1; rw [hs] at this; rw [Array.length_toList] at hj; omega)
    rw [ltI] at this
    rw [Array.length_toList] at hi hj
    rw [getElem!_pos d' i hi, getElem!_pos d' j hj] at this
    simpa using this
  · intro j u hu
    have hsz := hP.1
    rw [hw]
    unfold sortWorldK putRowK
    have h1 := holds_putRow id (Sort.ahead w n) g 0 (flatK itC1 2 l.toArray) (flatK itC1 2 d') (holds_ahead _ _ _ _ _ _ hH) (by simp [hsz])
    have h2 := holds_grow id _ os g 0 _ (by simp; exact hg) h1
    have hj : j < d'.size * 2 := by
      have := (List.getElem?_eq_some_iff.1 hu).1
      rw [itC_len, Array.length_toList] at this
      exact this
    have h3 := (h2 j (by rw [size_flatK]; exact hj)).1
    rw [Nat.zero_add] at h3
    rw [h3]
    rw [flat_it d' j hj] at hu
    exact hu
  · rw [hw]
    unfold sortWorldK putRowK
    refine ⟨rfl, rfl, rfl, by simp, fun k hk hn => ?_⟩
    rw [heap_grow_old _ _ (by simp; exact hk)]
    simp [putRow, mapBlock, Array.getElem?_modify, Ne.symm hn]
end Go.Proofs.Ytimdnddplhkdlaa
