/- Items are copied into memory of their own. -/
import Derived.Test.YtimdnddplhkdlaaNmS
import Derived.Test.YtimdnddplhkdlaaClone
import Derived.Deep.RegionLaw
namespace Go.Proofs.Ytimdnddplhkdlaa
open Go.RowKit Go.Shelf Go.Maps
set_option linter.unusedVariables false
set_option linter.unusedSimpArgs false

theorem gsrc_form {w : World} {x : Value} {m : Nat} {cs : List Value} (h : GSrc w x m cs) : ∃ ad cap, x = .slice ad m cap := by
  rcases h with ⟨c, e, hm, _⟩ | ⟨g, off, c, e, _⟩
  · exact ⟨none, c, by rw [e, hm]⟩
  · exact ⟨_, _, e⟩
set_option maxRecDepth 100000 in
set_option maxHeartbeats 4000000 in
theorem apart_any (l : List It) (v : Value) (w : World) (hv : GSrc w v l.length (itC l)) (hl : l.length ≤ 1048576) (hb : ∀ x ∈ l, x.1.length ≤ 1048576) :
    Calls Try.prog 29 #[v] w fun e w' => ∃ u, e = .returned u ∧ w'.ownsRow w.heap.size 39 2 u l.length (itC l) ∧ Keep (fun _ => False) w w' := by
  obtain ⟨ad, cap, rfl⟩ := gsrc_form hv
  have HC : Hid (∀ (k : Nat) (hk : k < l.length) (W : World), Keep (fun _ => False) w W → ∃ g off, ad = some ⟨g, off, none⟩ ∧ W.cell? ⟨g, off + k * 2, none⟩ = some (.string (tb l[k].1)) ∧ W.cell? ⟨g, off + k * 2 + 1, none⟩ = some (.bool l[k].2)) := by
    intro k hk W hW
    rcases hv with ⟨c, e, hm, _⟩ | ⟨g, off, c, e, hg, hc⟩
    · omega
    · injection e with e
      have h0 := itC_get l k hk 0 (by omega)
      have h1 := itC_get l k hk 1 (by omega)
      exact ⟨g, off, e, (hW.cell hg (fun h => h)).trans (hc _ _ h0), (hW.cell hg (fun h => h)).trans (hc _ _ h1)⟩
  have HT : Hid (∀ (k : Nat) (hk : k < l.length), l.take (k + 1) = l.take k ++ [l[k]]) := fun k hk => List.take_succ_eq_append_getElem hk
  have HB : Hid (∀ (k : Nat) (hk : k < l.length), (l[k]).1.length ≤ 1048576) := fun k hk => hb _ (List.getElem_mem hk)
  have HZ : Hid (l.take l.length = l) := List.take_length
  have HR0 : Hid (w.ownsRow w.heap.size 39 2 (.slice none 0 0) 0 (itC (l.take 0))) := nil_row
  clear hv hb
  go_enter Try.func29, Try.ntmps29
  go_wp2
  go_loopw [3, 8] (fun o i wr => ∃ (k : Nat), k ≤ l.length ∧ i = .int .i64 k ∧ (∃ ad cp, o = .slice ad k cp) ∧ Hid (wr.ownsRow w.heap.size 39 2 o k (itC (l.take k))) ∧ Hid (Keep (fun _ => False) w wr)) (fun _ i _ => l.length - (intOf i).toNat)
  case atStart => exact ⟨0, by omega, rfl, ⟨none, 0, rfl⟩, HR0, Keep.refl _ _⟩
  case round =>
    clear HR0
    obtain ⟨k, hk, rfl, ⟨ad0, cp0, rfl⟩, HR, HK⟩ := hrel
    by_cases hlt : k < l.length
    · have hk0 : (0 : Int) ≤ (k : Int) := by omega
      have hk1 : (k : Int) < (l.length : Int) := by omega
      obtain ⟨g, off, e1, c0, c1⟩ := HC.out k hlt wr HK.out
      subst e1
      have HKL := hid (HB.out k hlt)
      have HTK := hid (HT.out k hlt)
      clear HC HB HT HZ
      generalize l[k] = y at *
      obtain ⟨N, F⟩ := y
      simp only at HKL c0 c1
      have CL0 := hid (fun W => clone_any (tb N) W (by rw [tb_size]; exact Nat.le_trans HKL.out (by omega)))
      have HX1 : Hid (itC1 (N, F) = [.string (tb N), .bool F]) := rfl
      have HONE := hid (itC1_one (N, F))
      have HC2 : Hid ((itC1 (N, F)).length = 1 * 2) := rfl
      have HPL : Hid (itC (l.take (k + 1)) = itC (l.take k) ++ itC1 (N, F)) := by show _ = _; rw [HTK.out, itC_app]
      generalize itC1 (N, F) = XS at *
      clear HTK HKL
      generalize tb N = NN at *
      have CP : Hid (∀ W, Keep (fun _ => False) (wr.alloc (.cells #[.string NN, .bool F] 39)) W → Calls Try.prog 38 #[.string NN] W fun e w' => e = .returned (.string NN) ∧ Hid (Keep (fun _ => False) wr w') ∧ w'.cell? ⟨wr.heap.size, 1, none⟩ = some (.bool F) ∧ w'.cell? ⟨wr.heap.size, 0, none⟩ = some (.string NN)) := fun W hW => (CL0.out W).mono fun e w' ⟨he, hbl⟩ => by
        have k2 := hW.trans (hbl.keep _)
        have hlt4 : wr.heap.size < (wr.alloc (.cells #[.string NN, .bool F] 39)).heap.size := by simp
        exact ⟨he, (keep_alloc _ _ _).trans k2, (k2.cell hlt4 (fun h => h)).trans (RowIs.cellAt (cs := [.string NN, .bool F]) (t := 39) (heap_alloc_new _ _) rfl), (k2.cell hlt4 (fun h => h)).trans (RowIs.cellAt (cs := [.string NN, .bool F]) (t := 39) (heap_alloc_new _ _) rfl)⟩
      have KA : Hid (Keep (fun _ => False) (wr.alloc (.cells #[.string NN, .bool F] 39)) (wr.alloc (.cells #[.string NN, .bool F] 39))) := Keep.refl _ _
      have KD : Hid (Keep (fun _ => False) (wr.alloc (.cells #[.string NN, .bool F] 39)) (wr.alloc (.cells #[.string NN, .bool F] 39)).drew) := keep_drew _ _
      have AP : Hid (∀ w1 X, Keep (fun _ => False) wr w1 → X = Obj.cells #[.string NN, .bool F] 39 → (w1.alloc X).ownsRow w.heap.size 39 2 (.slice ad0 k cp0) k (itC (l.take k)) ∧ GSrc (w1.alloc X) (.slice (some ⟨w1.heap.size, 0, none⟩) 1 1) 1 XS) := fun w1 X kk e => by
        subst e
        refine ⟨(kk.trans (keep_alloc _ _ _)).ownsRow HR.out (fun _ _ h => h), ?_⟩
        rw [HX1.out]
        exact gsrc_block (heap_alloc_new _ _)
      have HBs : Hid (∀ w1 X, Keep (fun _ => False) wr w1 → w.heap.size ≤ (World.alloc w1 X).heap.size) := fun w1 X kk => Nat.le_trans HK.out.size (Nat.le_trans kk.size (keep_alloc (fun _ => False) _ _).size)
      have FIN : Hid (∀ w0 w2 ad' cap', Keep (fun _ => False) wr w0 → w2.ownsRow w.heap.size 39 2 (.slice ad' (k + 1) cap') (k + 1) (itC (l.take k) ++ XS) → Keep (fun j => (Value.slice ad0 k cp0).ownBlock = some j) w0 w2 → Hid (w2.ownsRow w.heap.size 39 2 (.slice ad' (k + 1) cap') (k + 1) (itC (l.take (k + 1)))) ∧ Hid (Keep (fun _ => False) w w2)) := fun w0 w2 ad' cap' kk hr hk' => by
        refine ⟨?_, (HK.out.trans kk).then hk' fun j hj e => ?_⟩
        · show World.ownsRow _ _ _ _ _ _ _
          rw [HPL.out]; exact hr
        · have := ownsRow_ge HR.out e
          omega
      have HLE : Hid (k + 1 ≤ 70368744177) := by show _ ≤ _; omega
      have HLB : Hid ((k + 1) * 24 ≤ 140737488355328) := by show _ ≤ _; omega
      clear CL0 HX1 HPL HR HK
      go_wp2
      go_region_law (first | (refine step_gapp (w0 := w1.alloc (Obj.cells #[.string NN, .bool F] 39)) (by rfl) _ _ elI (by rfl) w.heap.size (.slice ad0 k cp0) (.slice (some ⟨w1.heap.size, 0, none⟩) 1 1) (itC (l.take k)) XS k 1 (k + 1) (by rfl) (Keep.refl _ _) (by rfl) (by rfl) (AP.out w1 _ hk1.out rfl).1 (HBs.out _ _ hk1.out) (AP.out w1 _ hk1.out rfl).2 HC2.out HONE.out HLE.out HLB.out ?_; intro ad' cap' w2 hr2 hk2; obtain ⟨HR2, HK2⟩ := FIN.out _ _ ad' cap' (hk1.out.trans (keep_alloc _ _ _)) hr2 hk2) | (go_simp; go_at_call 38; first | with_reducible (refine (CP.out _ KA.out).mono ?_) | with_reducible (refine (CP.out _ KD.out).mono ?_); rintro e w1 ⟨rfl, hk1, hc1, hc2⟩; go_simp))
      all_goals
        clear AP FIN CP KA KD HBs
        go_wp2
        exact ⟨⟨k + 1, by omega, by go_num, ⟨_, _, rfl⟩, HR2, HK2⟩, by simp [intOf]; omega⟩
    · have hd : decide ((k : Int) < (l.length : Int)) = false := decide_eq_false (by omega)
      have hke : k = l.length := by omega
      have HF : Hid (wr.ownsRow w.heap.size 39 2 (.slice ad0 k cp0) l.length (itC l)) := by
        have := HR.out
        rw [hke, HZ.out] at this
        rw [hke]
        exact this
      clear HC HB HT HZ HR hke
      go_wp2
      go_ret
      exact ⟨_, rfl, HF.out, HK.out⟩
end Go.Proofs.Ytimdnddplhkdlaa
