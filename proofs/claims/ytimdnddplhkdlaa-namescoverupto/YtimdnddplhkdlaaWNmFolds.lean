/- The walk of the law NamesFolds. -/
import Derived.Test.YtimdnddplhkdlaaNmV
import Derived.Test.YtimdnddplhkdlaaWNmMay
namespace Go.Proofs.Ytimdnddplhkdlaa
open Go.RowKit Go.Shelf Go.Maps
set_option linter.unusedVariables false
set_option linter.unusedSimpArgs false

theorem strs_keep {w w' : World} {v : Value} {xs : List ByteArray} (h : Strs w v xs) (k : Keep (fun _ => False) w w') : Strs w' v xs := h.below (keep_bel k)
/-- how keys are asked for, in its box -/
def askC (p d af : Bs) (most : Int) : List Value := [.string (tb p), .string (tb d), .string (tb af), .int .i64 most]
set_option maxRecDepth 100000 in
set_option maxHeartbeats 4000000 in
theorem namesFolds_walk (v : Value) (ks : List Bs) (p d af : Bs) (most : Int) (w : World) (hv : Strs w v (ks.map tb)) (hl : ks.length ≤ 1048576) (hb : ∀ k ∈ ks, k.length ≤ 1048576) (hpl : p.length ≤ 1048576) (hdl : d.length ≤ 1048576) (hal : af.length ≤ 1048576) (hm : MaxL w) :
    Calls Try.prog 4 #[v, .agg #[.string (tb p), .string (tb d), .string (tb af), .int .i64 most]] w fun e w' => e = .returned (.bool true) ∧ Below w.heap.size w w' := by
  have k1 := keep_alloc (fun _ => False) w (.cells #[.string (tb p), .string (tb d), .string (tb af), .int .i64 most] 26)
  have hR : RowIs (w.alloc (.cells #[.string (tb p), .string (tb d), .string (tb af), .int .i64 most] 26)) w.heap.size (askC p d af most) 26 := heap_alloc_new _ _
  have FA := hid (fold_any ks p d af most v _ (strs_keep hv k1) (hm.keep k1) hl hb)
  have AW := hid (fun W (h : Keep (fun _ => False) w W) => awake12 W (hm.keep h))
  have RF := hid (fun W (h : Keep (fun _ => False) w W) => rfold_any ks p d af most v W (strs_keep hv h) hl hb (Nat.le_trans hpl (by omega)) (Nat.le_trans hdl (by omega)))
  have BX : Hid (∀ W, Keep (fun _ => False) (w.alloc (.cells #[.string (tb p), .string (tb d), .string (tb af), .int .i64 most] 26)) W → W.cell? ⟨w.heap.size, 0, none⟩ = some (.string (tb p)) ∧ W.cell? ⟨w.heap.size, 1, none⟩ = some (.string (tb d)) ∧ W.cell? ⟨w.heap.size, 2, none⟩ = some (.string (tb af)) ∧ W.cell? ⟨w.heap.size, 3, none⟩ = some (.int .i64 most)) := fun W h => by
    have r := hR.keep h (fun h => h)
    exact ⟨r.cellAt rfl, r.cellAt rfl, r.cellAt rfl, r.cellAt rfl⟩
  have HK1 := hid k1
  have HL := hid hl
  obtain ⟨ad0, cap0, hve, _⟩ := hv.at
  rw [List.length_map] at hve
  subst hve
  clear hv hb hpl hdl hal hm hR k1
  generalize tb p = P at *
  generalize tb d = D at *
  generalize tb af = AF at *
  by_cases h200 : 200 < ks.length
  · have h1 : (200 : Int) < (ks.length : Int) := by omega
    have A1 := hid (AW.out _ HK1.out)
    clear FA RF BX AW hl
    go_enter Try.func4, Try.ntmps4
    go_wp2_with fail
    refine A1.out.mono ?_
    rintro e w2 ⟨rfl, hk2⟩
    have HB := hid (keep_bel (HK1.out.trans hk2))
    clear hk2 A1
    go_wp2
    go_ret
    exact ⟨rfl, HB.out⟩
  · have h1 : decide ((200 : Int) < (ks.length : Int)) = false := decide_eq_false (by omega)
    clear hl h200
    go_enter Try.func4, Try.ntmps4
    go_wp2_with fail
    refine FA.out.mono ?_
    rintro e w2 ⟨S, u, rfl, hI, hr, hk2⟩
    obtain ⟨ad2, cap2, rfl⟩ := row_form hr
    obtain ⟨c0, c1, c2, c3⟩ := BX.out w2 hk2
    have R2 := hid (RF.out w2 (HK1.out.trans hk2))
    have HI := hid hI
    have HR := hid hr
    have HK2 := hid (HK1.out.trans hk2)
    have HSL : Hid ((S.take (askN most)).length ≤ 1048576) := by show _ ≤ _; rw [List.length_take]; have := hI.len; have := HL.out; omega
    clear FA hI hr hk2 RF BX HK1
    generalize hmo : decide ((S.take (askN most)).length < S.length) = mo
    have HMO := hid hmo
    clear hmo
    generalize hTn : (S.take (askN most)).length = n at HR HSL ⊢
    have HTN := hid hTn
    clear hTn
    go_wp2_with fail
    refine R2.out.mono ?_
    rintro e w3 ⟨S2, u3, he, hI3, hr3, hk3⟩
    have e2 : S2 = S := hI3.unique HI.out (fun _ => Iff.rfl)
    subst e2
    rw [HMO.out] at he
    subst he
    rw [HTN.out] at hr3
    obtain ⟨ad3, cap3, rfl⟩ := row_form hr3
    have A3 := hid (AW.out w3 (HK2.out.trans hk3))
    have SM : Hid (∀ W, Keep (fun _ => False) w3 W → Calls Try.prog 17 #[.slice ad2 n cap2, .slice ad3 n cap3] W fun e w' => e = .returned (.bool true) ∧ Keep (fun _ => False) W w') := fun W h => by
      have hn := HTN.out
      have g1 := gsrc_all ((hk3.trans h).ownsRow HR.out (fun _ _ h => h))
      have g2 := gsrc_all (h.ownsRow hr3 (fun _ _ h => h))
      rw [← hn] at g1 g2 ⊢
      exact same12_true _ _ _ W g1 g2 (by rw [hn]; exact HSL.out)
    have HK3 := hid (HK2.out.trans hk3)
    have hmm : (mo == mo) = true := by simp
    clear R2 hI3 hr3 hk3 AW HR HK2 HSL HMO HI HTN c0 c1 c2 c3
    go_wp2_with fail
    refine A3.out.mono ?_
    rintro e w4 ⟨rfl, hk4⟩
    have S4 := hid (SM.out w4 hk4)
    have HK4 := hid (HK3.out.trans hk4)
    clear SM hk4 A3 HK3
    go_wp2_with fail
    refine S4.out.mono ?_
    rintro e w5 ⟨rfl, hk5⟩
    have HB := hid (keep_bel (HK4.out.trans hk5))
    clear S4 hk5 HK4
    go_wp2
    go_ret
    exact ⟨rfl, HB.out⟩
end Go.Proofs.Ytimdnddplhkdlaa
