/- Pieces that are copied: the law's Piece, the program's Apart. -/
import Derived.Test.YtbiapepalkdkdaaGApR
import Derived.Test.YtbiapepalkdkdaaCvE
import Derived.Test.YtbiapepalkdkdaaClone
import Derived.Deep.RegionLaw
namespace Go.Proofs.Ytbiapepalkdkdaa
open Go.RowKit Go.Maps
set_option linter.unusedVariables false
set_option linter.unusedSimpArgs false

theorem elP : ElT 22 72 2 24 := ⟨Try.underlying22, ⟨.agg #[.string ⟨#[]⟩, .int .i64 0], by kernel_rfl, rfl⟩, by decide⟩
theorem elRP : ElT 30 74 2 24 := ⟨Try.underlying30, ⟨.agg #[.string ⟨#[]⟩, .int .i64 0], by kernel_rfl, rfl⟩, by decide⟩
/-- pieces in a row that the call owns -/
def OwnP (w : World) (B t : Nat) (v : Value) (l : List Pc) : Prop := w.ownsRow B t 2 v l.length (pcsC l)
theorem OwnP.pcs {w : World} {B t : Nat} {v : Value} {l : List Pc} (h : OwnP w B t v l) : PcI w v l := RowC.own h
theorem OwnP.form {w : World} {B t : Nat} {v : Value} {l : List Pc} (h : OwnP w B t v l) : ∃ ad cap, v = .slice ad l.length cap := row_form h
theorem OwnP.next {w w' : World} {B t : Nat} {v : Value} {l : List Pc} (h : OwnP w B t v l) (hB : Below w.heap.size w w') : OwnP w' B t v l := (hB.keep (fun _ => False)).ownsRow h (fun _ _ h => h)
theorem ownP_nil (w : World) (B t : Nat) : OwnP w B t (.slice none 0 0) [] := ⟨rfl, .inl ⟨rfl, rfl⟩⟩
theorem pcC_one (p : Pc) : ∀ u ∈ pcC p, u.oneCell' = true := by intro u hu; simp [pcC] at hu; rcases hu with rfl | rfl <;> rfl
set_option maxRecDepth 100000 in
set_option maxHeartbeats 1000000 in
theorem lpiece_any (v : Value) (l : List Pc) (w : World) (hv : PcI w v l) (hl : l.length * 24 ≤ 140737488355328) : Calls Try.prog 11 #[v] w fun e w' => ∃ ad cap, e = .returned (.slice ad l.length cap) ∧ OwnP w' w.heap.size 74 (.slice ad l.length cap) l ∧ Below w.heap.size w w' := by
  obtain ⟨ad, cap, rfl, hc⟩ := hv.form
  have HC := hid hc
  have HL := hid hl
  have HTK : Hid (∀ (k : Nat) (hk : k < l.length), pcsC (l.take (k + 1)) = pcsC (l.take k) ++ pcC l[k]) := fun k hk => pcsC_take l k hk
  have HZ : Hid (l.take l.length = l) := List.take_length
  have HR0 : Hid (w.ownsRow w.heap.size 74 2 (.slice none 0 0) 0 (pcsC (l.take 0))) := ⟨rfl, .inl ⟨rfl, rfl⟩⟩
  clear hc hv hl
  go_enter Try.func11, Try.ntmps11
  go_wp2
  go_loopw [3, 4] (fun o i wr => ∃ (k : Nat) (ad1 : Option Addr) (cp1 : Nat), k ≤ l.length ∧ o = .slice ad1 k cp1 ∧ i = .int .i64 (k : Int) ∧ Hid (wr.ownsRow w.heap.size 74 2 (.slice ad1 k cp1) k (pcsC (l.take k))) ∧ Hid (Below w.heap.size w wr)) (fun _ i _ => l.length - (intOf i).toNat)
  case atStart => exact ⟨0, none, 0, Nat.zero_le _, rfl, rfl, HR0, Below.refl _ _⟩
  case round =>
    clear HR0
    obtain ⟨k, ad1, cp1, hk, rfl, rfl, HR, HB⟩ := hrel
    by_cases hlt : k < l.length
    · have hk1 : (k : Int) < (l.length : Int) := by omega
      have hk0 : (0 : Int) ≤ (k : Int) := by omega
      obtain ⟨b, off, rfl, hb, c0, c1⟩ := HC.out k hlt
      have d0 := (HB.out.cell (p := ⟨b, off + k * 2, none⟩) hb).trans c0
      have d1 := (HB.out.cell (p := ⟨b, off + k * 2 + 1, none⟩) hb).trans c1
      have hwk : wrap64 ((k : Int) + 1) = ((k + 1 : Nat) : Int) := by have := HL.out; rw [IntWalk.wrap64_in _ (by omega)]; omega
      have HPL := hid (HTK.out k hlt)
      have HO1 := hid (pcC_one l[k])
      have HX1 : Hid (pcC l[k] = [.string l[k].id, .int .i64 l[k].sz]) := rfl
      have HX2 : Hid ((pcC l[k]).length = 1 * 2) := rfl
      have HB1 : Hid (k + 1 ≤ 4611686018427387904) := by have := HL.out; show _ ≤ _; omega
      have HB2 : Hid ((k + 1) * 24 ≤ 140737488355328) := by have := HL.out; show _ ≤ _; omega
      have HLT := hid hlt
      generalize l[k] = p at *
      obtain ⟨id, sz⟩ := p
      simp only at d0 d1 HX1
      generalize pcC ⟨id, sz⟩ = XS at *
      have HGA : Hid ((wr.alloc (.cells #[.string id, .int .i64 sz] 74)).ownsRow w.heap.size 74 2 (.slice ad1 k cp1) k (pcsC (l.take k))) := (keep_alloc (fun _ => False) _ _).ownsRow HR.out (fun _ _ h => h)
      have HGX : Hid (GSrc (wr.alloc (.cells #[.string id, .int .i64 sz] 74)) (.slice (some ⟨wr.heap.size, 0, none⟩) 1 1) 1 XS) := by
        rw [HX1.out]; exact gsrc_block (heap_alloc_new _ _)
      have HSZ : Hid (w.heap.size ≤ (wr.alloc (.cells #[.string id, .int .i64 sz] 74)).heap.size) := Nat.le_trans HB.out.size (keep_alloc (fun _ => False) _ _).size
      have FIN : Hid (∀ ad' cap' w', w'.ownsRow w.heap.size 74 2 (.slice ad' (k + 1) cap') (k + 1) (pcsC (l.take k) ++ XS) → Keep (fun j => (Value.slice ad1 k cp1).ownBlock = some j) (wr.alloc (.cells #[.string id, .int .i64 sz] 74)) w' → Hid (w'.ownsRow w.heap.size 74 2 (.slice ad' (k + 1) cap') (k + 1) (pcsC (l.take (k + 1)))) ∧ Hid (Below w.heap.size w w')) := fun ad' cap' w' hr hk' => by
        refine ⟨?_, (below_al HB.out _).trans (keep_below hk' (fun j hj e => by have := ownsRow_ge HR.out e; omega) HSZ.out)⟩
        show World.ownsRow _ _ _ _ _ _ _
        rw [HPL.out]; exact hr
      clear HC HTK HZ c0 c1 hb HL HR HPL HX1 hlt hk
      go_wp2_with (at_builtin; refine wpl_gappL rfl _ _ elRP rfl w.heap.size (.slice ad1 k cp1) (.slice (some ⟨wr.heap.size, 0, none⟩) 1 1) (pcsC (l.take k)) XS k 1 (k + 1) rfl rfl rfl HGA.out HSZ.out HGX.out HX2.out HO1.out HB1.out HB2.out ?_; intro ad' cap' w' hr' hk')
      obtain ⟨F1, F2⟩ := FIN.out _ _ _ hr' hk'
      clear hr' hk' FIN HGA HGX HSZ d0 d1
      go_wp2
      exact ⟨⟨k + 1, _, _, HLT.out, rfl, by first | rw [hwk] | rfl | simp, F1, F2⟩, by (try rw [hwk]); have := HLT.out; simp [intOf]; omega⟩
    · have hke : k = l.length := by omega
      have hd : decide ((k : Int) < (l.length : Int)) = false := decide_eq_false (by omega)
      have hd2 : decide (k < l.length) = false := decide_eq_false hlt
      have HF : Hid (wr.ownsRow w.heap.size 74 2 (.slice ad1 k cp1) l.length (pcsC l)) := by
        have := HR.out
        rw [hke, HZ.out] at this
        rw [hke]
        exact this
      have HKE := hid hke
      clear HC HTK HZ HR HL hke hlt hk
      go_wp2
      go_ret
      refine ⟨ad1, cp1, ?_, ?_, HB.out⟩
      · rw [HKE.out]; rfl
      · have := HF.out; rw [HKE.out] at this; exact this
set_option maxRecDepth 100000 in
set_option maxHeartbeats 4000000 in
theorem papart_any (v : Value) (l : List Pc) (w : World) (hv : PcI w v l) (hl : l.length ≤ 1048576) (hb : ∀ x ∈ l, x.id.size ≤ 1048576) :
    Calls Try.prog 63 #[v] w fun e w' => ∃ ad cap, e = .returned (.slice ad l.length cap) ∧ OwnP w' w.heap.size 72 (.slice ad l.length cap) l ∧ Below w.heap.size w w' := by
  obtain ⟨ad, cap, rfl, hc⟩ := hv.form
  have HC : Hid (∀ (k : Nat) (hk : k < l.length) (W : World), Keep (fun _ => False) w W → ∃ g off, ad = some ⟨g, off, none⟩ ∧ W.cell? ⟨g, off + k * 2, none⟩ = some (.string l[k].id) ∧ W.cell? ⟨g, off + k * 2 + 1, none⟩ = some (.int .i64 l[k].sz)) := by
    intro k hk W hW
    obtain ⟨g, off, e, hg, c0, c1⟩ := hc k hk
    exact ⟨g, off, e, (hW.cell hg (fun h => h)).trans c0, (hW.cell hg (fun h => h)).trans c1⟩
  have HT : Hid (∀ (k : Nat) (hk : k < l.length), pcsC (l.take (k + 1)) = pcsC (l.take k) ++ pcC l[k]) := fun k hk => pcsC_take l k hk
  have HB : Hid (∀ (k : Nat) (hk : k < l.length), (l[k]).id.size ≤ 1048576) := fun k hk => hb _ (List.getElem_mem hk)
  have HZ : Hid (l.take l.length = l) := List.take_length
  have HR0 : Hid (w.ownsRow w.heap.size 72 2 (.slice none 0 0) 0 (pcsC (l.take 0))) := ⟨rfl, .inl ⟨rfl, rfl⟩⟩
  clear hv hb hc
  go_enter Try.func63, Try.ntmps63
  go_wp2
  go_loopw [3, 8] (fun o i wr => ∃ (k : Nat) (ad0 : Option Addr) (cp0 : Nat), k ≤ l.length ∧ i = .int .i64 k ∧ o = .slice ad0 k cp0 ∧ Hid (wr.ownsRow w.heap.size 72 2 (.slice ad0 k cp0) k (pcsC (l.take k))) ∧ Hid (Keep (fun _ => False) w wr)) (fun _ i _ => l.length - (intOf i).toNat)
  case atStart => exact ⟨0, none, 0, by omega, rfl, rfl, HR0, Keep.refl _ _⟩
  case round =>
    clear HR0
    obtain ⟨k, ad0, cp0, hk, rfl, rfl, HR, HK⟩ := hrel
    by_cases hlt : k < l.length
    · have hk0 : (0 : Int) ≤ (k : Int) := by omega
      have hk1 : (k : Int) < (l.length : Int) := by omega
      obtain ⟨g, off, e1, c0, c1⟩ := HC.out k hlt wr HK.out
      subst e1
      have HKL := hid (HB.out k hlt)
      have HPL := hid (HT.out k hlt)
      clear HC HB HT HZ
      have HX1 : Hid (pcC l[k] = [.string l[k].id, .int .i64 l[k].sz]) := rfl
      have HC2 : Hid ((pcC l[k]).length = 1 * 2) := rfl
      have HONE := hid (pcC_one l[k])
      generalize l[k] = y at *
      obtain ⟨NN, F⟩ := y
      simp only at HKL c0 c1 HX1
      have CL0 := hid (fun W => clone_any NN W (Nat.le_trans HKL.out (by omega)))
      generalize pcC ⟨NN, F⟩ = XS at *
      clear HKL
      have CP : Hid (∀ W, Keep (fun _ => False) (wr.alloc (.cells #[.string NN, .int .i64 F] 72)) W → Calls Try.prog 62 #[.string NN] W fun e w' => e = .returned (.string NN) ∧ Hid (Keep (fun _ => False) wr w') ∧ w'.cell? ⟨wr.heap.size, 1, none⟩ = some (.int .i64 F) ∧ w'.cell? ⟨wr.heap.size, 0, none⟩ = some (.string NN)) := fun W hW => (CL0.out W).mono fun e w' ⟨he, hbl⟩ => by
        have k2 := hW.trans (hbl.keep _)
        have hlt4 : wr.heap.size < (wr.alloc (.cells #[.string NN, .int .i64 F] 72)).heap.size := by simp
        exact ⟨he, (keep_alloc _ _ _).trans k2, (k2.cell hlt4 (fun h => h)).trans (RowIs.cellAt (cs := [.string NN, .int .i64 F]) (t := 72) (heap_alloc_new _ _) rfl), (k2.cell hlt4 (fun h => h)).trans (RowIs.cellAt (cs := [.string NN, .int .i64 F]) (t := 72) (heap_alloc_new _ _) rfl)⟩
      have KA : Hid (Keep (fun _ => False) (wr.alloc (.cells #[.string NN, .int .i64 F] 72)) (wr.alloc (.cells #[.string NN, .int .i64 F] 72))) := Keep.refl _ _
      have KD : Hid (Keep (fun _ => False) (wr.alloc (.cells #[.string NN, .int .i64 F] 72)) (wr.alloc (.cells #[.string NN, .int .i64 F] 72)).drew) := keep_drew _ _
      have AP : Hid (∀ w1 X, Keep (fun _ => False) wr w1 → X = Obj.cells #[.string NN, .int .i64 F] 72 → (w1.alloc X).ownsRow w.heap.size 72 2 (.slice ad0 k cp0) k (pcsC (l.take k)) ∧ GSrc (w1.alloc X) (.slice (some ⟨w1.heap.size, 0, none⟩) 1 1) 1 XS) := fun w1 X kk e => by
        subst e
        refine ⟨(kk.trans (keep_alloc _ _ _)).ownsRow HR.out (fun _ _ h => h), ?_⟩
        rw [HX1.out]
        exact gsrc_block (heap_alloc_new _ _)
      have HBs : Hid (∀ w1 X, Keep (fun _ => False) wr w1 → w.heap.size ≤ (World.alloc w1 X).heap.size) := fun w1 X kk => Nat.le_trans HK.out.size (Nat.le_trans kk.size (keep_alloc (fun _ => False) _ _).size)
      have FIN : Hid (∀ w0 w2 ad' cap', Keep (fun _ => False) wr w0 → w2.ownsRow w.heap.size 72 2 (.slice ad' (k + 1) cap') (k + 1) (pcsC (l.take k) ++ XS) → Keep (fun j => (Value.slice ad0 k cp0).ownBlock = some j) w0 w2 → Hid (w2.ownsRow w.heap.size 72 2 (.slice ad' (k + 1) cap') (k + 1) (pcsC (l.take (k + 1)))) ∧ Hid (Keep (fun _ => False) w w2)) := fun w0 w2 ad' cap' kk hr hk' => by
        refine ⟨?_, (HK.out.trans kk).then hk' fun j hj e => ?_⟩
        · show World.ownsRow _ _ _ _ _ _ _
          rw [HPL.out]; exact hr
        · have := ownsRow_ge HR.out e
          omega
      have HLE : Hid (k + 1 ≤ 70368744177) := by show _ ≤ _; omega
      have HLB : Hid ((k + 1) * 24 ≤ 140737488355328) := by show _ ≤ _; omega
      clear CL0 HX1 HPL HR HK
      go_wp2
      go_region_law (first | (refine step_gapp (w0 := w1.alloc (Obj.cells #[.string NN, .int .i64 F] 72)) (by rfl) _ _ elP (by rfl) w.heap.size (.slice ad0 k cp0) (.slice (some ⟨w1.heap.size, 0, none⟩) 1 1) (pcsC (l.take k)) XS k 1 (k + 1) (by rfl) (Keep.refl _ _) (by rfl) (by rfl) (AP.out w1 _ hk1.out rfl).1 (HBs.out _ _ hk1.out) (AP.out w1 _ hk1.out rfl).2 HC2.out HONE.out HLE.out HLB.out ?_; intro ad' cap' w2 hr2 hk2; obtain ⟨HR2, HK2⟩ := FIN.out _ _ ad' cap' (hk1.out.trans (keep_alloc _ _ _)) hr2 hk2) | (go_simp; go_at_call 62; first | with_reducible (refine (CP.out _ KA.out).mono ?_) | with_reducible (refine (CP.out _ KD.out).mono ?_); rintro e w1 ⟨rfl, hk1, hc1, hc2⟩; go_simp))
      all_goals
        clear AP FIN CP KA KD HBs
        go_wp2
        exact ⟨⟨k + 1, _, _, by omega, by go_num, rfl, HR2, HK2⟩, by simp [intOf]; omega⟩
    · have hd : decide ((k : Int) < (l.length : Int)) = false := decide_eq_false (by omega)
      have hke : k = l.length := by omega
      have HF : Hid (wr.ownsRow w.heap.size 72 2 (.slice ad0 k cp0) l.length (pcsC l)) := by
        have := HR.out
        rw [hke, HZ.out] at this
        rw [hke]
        exact this
      have HKE := hid hke
      clear HC HB HT HZ HR hke
      go_wp2
      go_ret
      refine ⟨ad0, cp0, ?_, ?_, keep_below HK.out (fun _ _ h => h) (Nat.le_refl _)⟩
      · rw [HKE.out]; rfl
      · have := HF.out; rw [HKE.out] at this; exact this
end Go.Proofs.Ytbiapepalkdkdaa
