/- Joined: Pieces that are copied: the law's Piece, the program's Apart. A version as the document has it, and one in memory of its own. Versions that are copied: the law's Refs, the program's apart. -/
import Derived.Test.YtbiapepalkdkdaaGApR
import Derived.Test.YtbiapepalkdkdaaJoined04
import Derived.Test.YtbiapepalkdkdaaJoined05
import Derived.Deep.RegionLaw
namespace Go.Proofs.Ytbiapepalkdkdaa
open Go.RowKit Go.Maps
set_option linter.unusedVariables false
set_option linter.unusedSimpArgs false

theorem elP : ElT 22 72 2 24 := ⟨Try.underlying22, ⟨.agg #[.string ⟨#[]⟩, .int .i64 0], by kernel_rfl, rfl⟩, by decide⟩
theorem elRP : ElT 30 74 2 24 := ⟨Try.underlying30, ⟨.agg #[.string ⟨#[]⟩, .int .i64 0], by kernel_rfl, rfl⟩, by decide⟩
/-- pieces in a row that the call owns -/
def OwnP (w : World) (B t : Nat) (v : Value) (l : List Pc) : Prop := w.ownsRow B t 2 v l.length (pcsC l)
theorem OwnP.pcs {w : World} {B t : Nat} {v : Value} {l : List Pc} (h : OwnP w B t v l) : PcI w v l := RowC.own h
theorem OwnP.form {w : World} {B t : Nat} {v : Value} {l : List Pc} (h : OwnP w B t v l) : ∃ ad cap, v = .slice ad l.length cap := row_form h
theorem OwnP.next {w w' : World} {B t : Nat} {v : Value} {l : List Pc} (h : OwnP w B t v l) (hB : Below w.heap.size w w') : OwnP w' B t v l := (hB.keep (fun _ => False)).ownsRow h (fun _ _ h => h)
theorem ownP_nil (w : World) (B t : Nat) : OwnP w B t (.slice none 0 0) [] := ⟨rfl, .inl ⟨rfl, rfl⟩⟩
theorem pcC_one (p : Pc) : ∀ u ∈ pcC p, u.oneCell' = true := by intro u hu; simp [pcC] at hu; rcases hu with rfl | rfl <;> rfl
set_option maxRecDepth 100000 in
set_option maxHeartbeats 1000000 in
theorem lpiece_any (v : Value) (l : List Pc) (w : World) (hv : PcI w v l) (hl : l.length * 24 ≤ 140737488355328) : Calls Try.prog 11 #[v] w fun e w' => ∃ ad cap, e = .returned (.slice ad l.length cap) ∧ OwnP w' w.heap.size 74 (.slice ad l.length cap) l ∧ Below w.heap.size w w' := by
  obtain ⟨ad, cap, rfl, hc⟩ := hv.form
  have HC := hid hc
  have HL := hid hl
  have HTK : Hid (∀ (k : Nat) (hk : k < l.length), pcsC (l.take (k + 1)) = pcsC (l.take k) ++ pcC l[k]) := fun k hk => pcsC_take l k hk
  have HZ : Hid (l.take l.length = l) := List.take_length
  have HR0 : Hid (w.ownsRow w.heap.size 74 2 (.slice none 0 0) 0 (pcsC (l.take 0))) := ⟨rfl, .inl ⟨rfl, rfl⟩⟩
  clear hc hv hl
  go_enter Try.func11, Try.ntmps11
  go_wp2
  go_loopw [3, 4] (fun o i wr => ∃ (k : Nat) (ad1 : Option Addr) (cp1 : Nat), k ≤ l.length ∧ o = .slice ad1 k cp1 ∧ i = .int .i64 (k : Int) ∧ Hid (wr.ownsRow w.heap.size 74 2 (.slice ad1 k cp1) k (pcsC (l.take k))) ∧ Hid (Below w.heap.size w wr)) (fun _ i _ => l.length - (intOf i).toNat)
  case atStart => exact ⟨0, none, 0, Nat.zero_le _, rfl, rfl, HR0, Below.refl _ _⟩
  case round =>
    clear HR0
    obtain ⟨k, ad1, cp1, hk, rfl, rfl, HR, HB⟩ := hrel
    by_cases hlt : k < l.length
    · have hk1 : (k : Int) < (l.length : Int) := by omega
      have hk0 : (0 : Int) ≤ (k : Int) := by omega
      obtain ⟨b, off, rfl, hb, c0, c1⟩ := HC.out k hlt
      have d0 := (HB.out.cell (p := ⟨b, off + k * 2, none⟩) hb).trans c0
      have d1 := (HB.out.cell (p := ⟨b, off + k * 2 + 1, none⟩) hb).trans c1
      have hwk : wrap64 ((k : Int) + 1) = ((k + 1 : Nat) : Int) := by have := HL.out; rw [IntWalk.wrap64_in _ (by omega)]; omega
      have HPL := hid (HTK.out k hlt)
      have HO1 := hid (pcC_one l[k])
      have HX1 : Hid (pcC l[k] = [.string l[k].id, .int .i64 l[k].sz]) := rfl
      have HX2 : Hid ((pcC l[k]).length = 1 * 2) := rfl
      have HB1 : Hid (k + 1 ≤ 4611686018427387904) := by have := HL.out; show _ ≤ _; omega
      have HB2 : Hid ((k + 1) * 24 ≤ 140737488355328) := by have := HL.out; show _ ≤ _; omega
      have HLT := hid hlt
      generalize l[k] = p at *
      obtain ⟨id, sz⟩ := p
      simp only at d0 d1 HX1
      generalize pcC ⟨id, sz⟩ = XS at *
      have HGA : Hid ((wr.alloc (.cells #[.string id, .int .i64 sz] 74)).ownsRow w.heap.size 74 2 (.slice ad1 k cp1) k (pcsC (l.take k))) := (keep_alloc (fun _ => False) _ _).ownsRow HR.out (fun _ _ h => h)
      have HGX : Hid (GSrc (wr.alloc (.cells #[.string id, .int .i64 sz] 74)) (.slice (some ⟨wr.heap.size, 0, none⟩) 1 1) 1 XS) := by
        rw [HX1.out]; exact gsrc_block (heap_alloc_new _ _)
      have HSZ : Hid (w.heap.size ≤ (wr.alloc (.cells #[.string id, .int .i64 sz] 74)).heap.size) := Nat.le_trans HB.out.size (keep_alloc (fun _ => False) _ _).size
      have FIN : Hid (∀ ad' cap' w', w'.ownsRow w.heap.size 74 2 (.slice ad' (k + 1) cap') (k + 1) (pcsC (l.take k) ++ XS) → Keep (fun j => (Value.slice ad1 k cp1).ownBlock = some j) (wr.alloc (.cells #[.string id, .int .i64 sz] 74)) w' → Hid (w'.ownsRow w.heap.size 74 2 (.slice ad' (k + 1) cap') (k + 1) (pcsC (l.take (k + 1)))) ∧ Hid (Below w.heap.size w w')) := fun ad' cap' w' hr hk' => by
        refine ⟨?_, (below_al HB.out _).trans (keep_below hk' (fun j hj e => by have := ownsRow_ge HR.out e; omega) HSZ.out)⟩
        show World.ownsRow _ _ _ _ _ _ _
        rw [HPL.out]; exact hr
      clear HC HTK HZ c0 c1 hb HL HR HPL HX1 hlt hk
      go_wp2_with (at_builtin; refine wpl_gappL rfl _ _ elRP rfl w.heap.size (.slice ad1 k cp1) (.slice (some ⟨wr.heap.size, 0, none⟩) 1 1) (pcsC (l.take k)) XS k 1 (k + 1) rfl rfl rfl HGA.out HSZ.out HGX.out HX2.out HO1.out HB1.out HB2.out ?_; intro ad' cap' w' hr' hk')
      obtain ⟨F1, F2⟩ := FIN.out _ _ _ hr' hk'
      clear hr' hk' FIN HGA HGX HSZ d0 d1
      go_wp2
      exact ⟨⟨k + 1, _, _, HLT.out, rfl, by first | rw [hwk] | rfl | simp, F1, F2⟩, by (try rw [hwk]); have := HLT.out; simp [intOf]; omega⟩
    · have hke : k = l.length := by omega
      have hd : decide ((k : Int) < (l.length : Int)) = false := decide_eq_false (by omega)
      have hd2 : decide (k < l.length) = false := decide_eq_false hlt
      have HF : Hid (wr.ownsRow w.heap.size 74 2 (.slice ad1 k cp1) l.length (pcsC l)) := by
        have := HR.out
        rw [hke, HZ.out] at this
        rw [hke]
        exact this
      have HKE := hid hke
      clear HC HTK HZ HR HL hke hlt hk
      go_wp2
      go_ret
      refine ⟨ad1, cp1, ?_, ?_, HB.out⟩
      · rw [HKE.out]; rfl
      · have := HF.out; rw [HKE.out] at this; exact this
set_option maxRecDepth 100000 in
set_option maxHeartbeats 4000000 in
theorem papart_any (v : Value) (l : List Pc) (w : World) (hv : PcI w v l) (hl : l.length ≤ 1048576) (hb : ∀ x ∈ l, x.id.size ≤ 1048576) :
    Calls Try.prog 63 #[v] w fun e w' => ∃ ad cap, e = .returned (.slice ad l.length cap) ∧ OwnP w' w.heap.size 72 (.slice ad l.length cap) l ∧ Below w.heap.size w w' := by
  obtain ⟨ad, cap, rfl, hc⟩ := hv.form
  have HC : Hid (∀ (k : Nat) (hk : k < l.length) (W : World), Keep (fun _ => False) w W → ∃ g off, ad = some ⟨g, off, none⟩ ∧ W.cell? ⟨g, off + k * 2, none⟩ = some (.string l[k].id) ∧ W.cell? ⟨g, off + k * 2 + 1, none⟩ = some (.int .i64 l[k].sz)) := by
    intro k hk W hW
    obtain ⟨g, off, e, hg, c0, c1⟩ := hc k hk
    exact ⟨g, off, e, (hW.cell hg (fun h => h)).trans c0, (hW.cell hg (fun h => h)).trans c1⟩
  have HT : Hid (∀ (k : Nat) (hk : k < l.length), pcsC (l.take (k + 1)) = pcsC (l.take k) ++ pcC l[k]) := fun k hk => pcsC_take l k hk
  have HB : Hid (∀ (k : Nat) (hk : k < l.length), (l[k]).id.size ≤ 1048576) := fun k hk => hb _ (List.getElem_mem hk)
  have HZ : Hid (l.take l.length = l) := List.take_length
  have HR0 : Hid (w.ownsRow w.heap.size 72 2 (.slice none 0 0) 0 (pcsC (l.take 0))) := ⟨rfl, .inl ⟨rfl, rfl⟩⟩
  clear hv hb hc
  go_enter Try.func63, Try.ntmps63
  go_wp2
  go_loopw [3, 8] (fun o i wr => ∃ (k : Nat) (ad0 : Option Addr) (cp0 : Nat), k ≤ l.length ∧ i = .int .i64 k ∧ o = .slice ad0 k cp0 ∧ Hid (wr.ownsRow w.heap.size 72 2 (.slice ad0 k cp0) k (pcsC (l.take k))) ∧ Hid (Keep (fun _ => False) w wr)) (fun _ i _ => l.length - (intOf i).toNat)
  case atStart => exact ⟨0, none, 0, by omega, rfl, rfl, HR0, Keep.refl _ _⟩
  case round =>
    clear HR0
    obtain ⟨k, ad0, cp0, hk, rfl, rfl, HR, HK⟩ := hrel
    by_cases hlt : k < l.length
    · have hk0 : (0 : Int) ≤ (k : Int) := by omega
      have hk1 : (k : Int) < (l.length : Int) := by omega
      obtain ⟨g, off, e1, c0, c1⟩ := HC.out k hlt wr HK.out
      subst e1
      have HKL := hid (HB.out k hlt)
      have HPL := hid (HT.out k hlt)
      clear HC HB HT HZ
      have HX1 : Hid (pcC l[k] = [.string l[k].id, .int .i64 l[k].sz]) := rfl
      have HC2 : Hid ((pcC l[k]).length = 1 * 2) := rfl
      have HONE := hid (pcC_one l[k])
      generalize l[k] = y at *
      obtain ⟨NN, F⟩ := y
      simp only at HKL c0 c1 HX1
      have CL0 := hid (fun W => clone_any NN W (Nat.le_trans HKL.out (by omega)))
      generalize pcC ⟨NN, F⟩ = XS at *
      clear HKL
      have CP : Hid (∀ W, Keep (fun _ => False) (wr.alloc (.cells #[.string NN, .int .i64 F] 72)) W → Calls Try.prog 62 #[.string NN] W fun e w' => e = .returned (.string NN) ∧ Hid (Keep (fun _ => False) wr w') ∧ w'.cell? ⟨wr.heap.size, 1, none⟩ = some (.int .i64 F) ∧ w'.cell? ⟨wr.heap.size, 0, none⟩ = some (.string NN)) := fun W hW => (CL0.out W).mono fun e w' ⟨he, hbl⟩ => by
        have k2 := hW.trans (hbl.keep _)
        have hlt4 : wr.heap.size < (wr.alloc (.cells #[.string NN, .int .i64 F] 72)).heap.size := by simp
        exact ⟨he, (keep_alloc _ _ _).trans k2, (k2.cell hlt4 (fun h => h)).trans (RowIs.cellAt (cs := [.string NN, .int .i64 F]) (t := 72) (heap_alloc_new _ _) rfl), (k2.cell hlt4 (fun h => h)).trans (RowIs.cellAt (cs := [.string NN, .int .i64 F]) (t := 72) (heap_alloc_new _ _) rfl)⟩
      have KA : Hid (Keep (fun _ => False) (wr.alloc (.cells #[.string NN, .int .i64 F] 72)) (wr.alloc (.cells #[.string NN, .int .i64 F] 72))) := Keep.refl _ _
      have KD : Hid (Keep (fun _ => False) (wr.alloc (.cells #[.string NN, .int .i64 F] 72)) (wr.alloc (.cells #[.string NN, .int .i64 F] 72)).drew) := keep_drew _ _
      have AP : Hid (∀ w1 X, Keep (fun _ => False) wr w1 → X = Obj.cells #[.string NN, .int .i64 F] 72 → (w1.alloc X).ownsRow w.heap.size 72 2 (.slice ad0 k cp0) k (pcsC (l.take k)) ∧ GSrc (w1.alloc X) (.slice (some ⟨w1.heap.size, 0, none⟩) 1 1) 1 XS) := fun w1 X kk e => by
        subst e
        refine ⟨(kk.trans (keep_alloc _ _ _)).ownsRow HR.out (fun _ _ h => h), ?_⟩
        rw [HX1.out]
        exact gsrc_block (heap_alloc_new _ _)
      have HBs : Hid (∀ w1 X, Keep (fun _ => False) wr w1 → w.heap.size ≤ (World.alloc w1 X).heap.size) := fun w1 X kk => Nat.le_trans HK.out.size (Nat.le_trans kk.size (keep_alloc (fun _ => False) _ _).size)
      have FIN : Hid (∀ w0 w2 ad' cap', Keep (fun _ => False) wr w0 → w2.ownsRow w.heap.size 72 2 (.slice ad' (k + 1) cap') (k + 1) (pcsC (l.take k) ++ XS) → Keep (fun j => (Value.slice ad0 k cp0).ownBlock = some j) w0 w2 → Hid (w2.ownsRow w.heap.size 72 2 (.slice ad' (k + 1) cap') (k + 1) (pcsC (l.take (k + 1)))) ∧ Hid (Keep (fun _ => False) w w2)) := fun w0 w2 ad' cap' kk hr hk' => by
        refine ⟨?_, (HK.out.trans kk).then hk' fun j hj e => ?_⟩
        · show World.ownsRow _ _ _ _ _ _ _
          rw [HPL.out]; exact hr
        · have := ownsRow_ge HR.out e
          omega
      have HLE : Hid (k + 1 ≤ 70368744177) := by show _ ≤ _; omega
      have HLB : Hid ((k + 1) * 24 ≤ 140737488355328) := by show _ ≤ _; omega
      clear CL0 HX1 HPL HR HK
      go_wp2
      go_region_law (first | (refine step_gapp (w0 := w1.alloc (Obj.cells #[.string NN, .int .i64 F] 72)) (by rfl) _ _ elP (by rfl) w.heap.size (.slice ad0 k cp0) (.slice (some ⟨w1.heap.size, 0, none⟩) 1 1) (pcsC (l.take k)) XS k 1 (k + 1) (by rfl) (Keep.refl _ _) (by rfl) (by rfl) (AP.out w1 _ hk1.out rfl).1 (HBs.out _ _ hk1.out) (AP.out w1 _ hk1.out rfl).2 HC2.out HONE.out HLE.out HLB.out ?_; intro ad' cap' w2 hr2 hk2; obtain ⟨HR2, HK2⟩ := FIN.out _ _ ad' cap' (hk1.out.trans (keep_alloc _ _ _)) hr2 hk2) | (go_simp; go_at_call 62; first | with_reducible (refine (CP.out _ KA.out).mono ?_) | with_reducible (refine (CP.out _ KD.out).mono ?_); rintro e w1 ⟨rfl, hk1, hc1, hc2⟩; go_simp))
      all_goals
        clear AP FIN CP KA KD HBs
        go_wp2
        exact ⟨⟨k + 1, _, _, by omega, by go_num, rfl, HR2, HK2⟩, by simp [intOf]; omega⟩
    · have hd : decide ((k : Int) < (l.length : Int)) = false := decide_eq_false (by omega)
      have hke : k = l.length := by omega
      have HF : Hid (wr.ownsRow w.heap.size 72 2 (.slice ad0 k cp0) l.length (pcsC l)) := by
        have := HR.out
        rw [hke, HZ.out] at this
        rw [hke]
        exact this
      have HKE := hid hke
      clear HC HB HT HZ HR hke
      go_wp2
      go_ret
      refine ⟨ad0, cp0, ?_, ?_, keep_below HK.out (fun _ _ h => h) (Nat.le_refl _)⟩
      · rw [HKE.out]; rfl
      · have := HF.out; rw [HKE.out] at this; exact this
end Go.Proofs.Ytbiapepalkdkdaa
namespace Go.Proofs.Ytbiapepalkdkdaa
open Go.RowKit Go.Maps
set_option linter.unusedVariables false
set_option linter.unusedSimpArgs false

/-- a box and a result's cell -/
structure Tb (w : World) (cs zs : List Value) (t1 t2 : TypeId) (W : World) : Prop where
  row : RowIs W w.heap.size cs t1
  res : RowIs W (w.heap.size + 1) zs t2
  b : Below w.heap.size w W
theorem Tb.next {w W W' : World} {cs zs : List Value} {t1 t2 : TypeId} (h : Tb w cs zs t1 t2 W) (hb : Below W.heap.size W W') : Tb w cs zs t1 t2 W' :=
  ⟨h.row.keep (hb.keep (fun _ => False)) (fun h => h), h.res.keep (hb.keep (fun _ => False)) (fun h => h), below_on h.b hb⟩
theorem Tb.drew {w W : World} {cs zs : List Value} {t1 t2 : TypeId} (h : Tb w cs zs t1 t2 W) : Tb w cs zs t1 t2 W.drew := ⟨h.row, h.res, h.b.drew⟩
theorem Tb.al {w W : World} {cs zs : List Value} {t1 t2 : TypeId} (h : Tb w cs zs t1 t2 W) (o : Obj) : Tb w cs zs t1 t2 (W.alloc o) := h.next ((Below.refl _ _).alloc (Nat.le_refl _) o)
theorem Tb.made (w : World) (cs zs : List Value) (t1 t2 : TypeId) : Tb w cs zs t1 t2 ((w.alloc (.cells cs.toArray t1)).alloc (.cells zs.toArray t2)) := by
  have hsz : (w.alloc (.cells cs.toArray t1)).heap.size = w.heap.size + 1 := by simp
  refine ⟨row_old (srow w cs t1) _, ?_, below_al (below_al (Below.refl _ _) _) _⟩
  rw [← hsz]
  exact srow _ zs t2
theorem five {W : World} {g : Nat} {v0 v1 v2 v3 v4 x0 x1 x2 x3 x4 : Value} {t : TypeId} (h : RowIs W g [v0, v1, v2, v3, v4] t) : RowIs (((((W.setCell ⟨g, 0, none⟩ x0).setCell ⟨g, 1, none⟩ x1).setCell ⟨g, 2, none⟩ x2).setCell ⟨g, 3, none⟩ x3).setCell ⟨g, 4, none⟩ x4) g [x0, x1, x2, x3, x4] t ∧ Keep (· = g) W (((((W.setCell ⟨g, 0, none⟩ x0).setCell ⟨g, 1, none⟩ x1).setCell ⟨g, 2, none⟩ x2).setCell ⟨g, 3, none⟩ x3).setCell ⟨g, 4, none⟩ x4) :=
  ⟨((((h.set 0 x0).set 1 x1).set 2 x2).set 3 x3).set 4 x4, ((((keep_setCell _ _ _ _).trans (keep_setCell _ _ _ _)).trans (keep_setCell _ _ _ _)).trans (keep_setCell _ _ _ _)).trans (keep_setCell _ _ _ _)⟩
/-- the result's cell set -/
theorem Tb.done {w W : World} {cs : List Value} {t1 t2 : TypeId} {z0 z1 z2 z3 z4 : Value} (h : Tb w cs [z0, z1, z2, z3, z4] t1 t2 W) (x0 x1 x2 x3 x4 : Value) : RowIs (((((W.setCell ⟨w.heap.size + 1, 0, none⟩ x0).setCell ⟨w.heap.size + 1, 1, none⟩ x1).setCell ⟨w.heap.size + 1, 2, none⟩ x2).setCell ⟨w.heap.size + 1, 3, none⟩ x3).setCell ⟨w.heap.size + 1, 4, none⟩ x4) (w.heap.size + 1) [x0, x1, x2, x3, x4] t2 ∧ Below w.heap.size w (((((W.setCell ⟨w.heap.size + 1, 0, none⟩ x0).setCell ⟨w.heap.size + 1, 1, none⟩ x1).setCell ⟨w.heap.size + 1, 2, none⟩ x2).setCell ⟨w.heap.size + 1, 3, none⟩ x3).setCell ⟨w.heap.size + 1, 4, none⟩ x4) ∧ Keep (· = w.heap.size + 1) W (((((W.setCell ⟨w.heap.size + 1, 0, none⟩ x0).setCell ⟨w.heap.size + 1, 1, none⟩ x1).setCell ⟨w.heap.size + 1, 2, none⟩ x2).setCell ⟨w.heap.size + 1, 3, none⟩ x3).setCell ⟨w.heap.size + 1, 4, none⟩ x4) := by
  have f := five h.res (x0 := x0) (x1 := x1) (x2 := x2) (x3 := x3) (x4 := x4)
  exact ⟨f.1, h.b.trans (keep_below f.2 (fun k hk e => by omega) h.b.size), f.2⟩
/-- the box's five cells -/
theorem Tb.five {w W : World} {zs : List Value} {t1 t2 : TypeId} {x0 x1 x2 x3 x4 : Value} (h : Tb w [x0, x1, x2, x3, x4] zs t1 t2 W) : W.cell? ⟨w.heap.size, 0, none⟩ = some x0 ∧ W.cell? ⟨w.heap.size, 1, none⟩ = some x1 ∧ W.cell? ⟨w.heap.size, 2, none⟩ = some x2 ∧ W.cell? ⟨w.heap.size, 3, none⟩ = some x3 ∧ W.cell? ⟨w.heap.size, 4, none⟩ = some x4 :=
  ⟨h.row.cellAt rfl, h.row.cellAt rfl, h.row.cellAt rfl, h.row.cellAt rfl, h.row.cellAt rfl⟩
/-- the result's five cells may be set -/
theorem Tb.may {w W : World} {cs : List Value} {t1 t2 : TypeId} {z0 z1 z2 z3 z4 : Value} (h : Tb w cs [z0, z1, z2, z3, z4] t1 t2 W) : (W.cell? ⟨w.heap.size + 1, 0, none⟩ = some z0 ∧ W.cell? ⟨w.heap.size + 1, 1, none⟩ = some z1 ∧ W.cell? ⟨w.heap.size + 1, 2, none⟩ = some z2 ∧ W.cell? ⟨w.heap.size + 1, 3, none⟩ = some z3 ∧ W.cell? ⟨w.heap.size + 1, 4, none⟩ = some z4) ∧ (W.frozen? ⟨w.heap.size + 1, 0, none⟩ = false ∧ W.frozen? ⟨w.heap.size + 1, 1, none⟩ = false ∧ W.frozen? ⟨w.heap.size + 1, 2, none⟩ = false ∧ W.frozen? ⟨w.heap.size + 1, 3, none⟩ = false ∧ W.frozen? ⟨w.heap.size + 1, 4, none⟩ = false) :=
  ⟨⟨h.res.cellAt rfl, h.res.cellAt rfl, h.res.cellAt rfl, h.res.cellAt rfl, h.res.cellAt rfl⟩, h.res.frozen, h.res.frozen, h.res.frozen, h.res.frozen, h.res.frozen⟩
/-- behind the store -/
theorem Tb.set {w W : World} {cs : List Value} {t1 t2 : TypeId} {z0 z1 z2 z3 z4 : Value} (h : Tb w cs [z0, z1, z2, z3, z4] t1 t2 W) (x0 x1 x2 x3 x4 : Value) : Tb w cs [x0, x1, x2, x3, x4] t1 t2 (((((W.setCell ⟨w.heap.size + 1, 0, none⟩ x0).setCell ⟨w.heap.size + 1, 1, none⟩ x1).setCell ⟨w.heap.size + 1, 2, none⟩ x2).setCell ⟨w.heap.size + 1, 3, none⟩ x3).setCell ⟨w.heap.size + 1, 4, none⟩ x4) := by
  have d := h.done x0 x1 x2 x3 x4
  exact ⟨h.row.keep d.2.2 (by omega), d.1, d.2.1⟩
set_option maxRecDepth 100000 in
set_option maxHeartbeats 2000000 in
theorem lref_any (pv : Value) (x : Vn) (w : World) (hp : PcI w pv x.ps) (hl : x.ps.length * 24 ≤ 140737488355328) : Calls Try.prog 15 #[vnV (pv, x)] w fun e w' => ∃ ad cap, e = .returned (vnV (.slice ad x.ps.length cap, x)) ∧ OwnP w' w.heap.size 74 (.slice ad x.ps.length cap) x.ps ∧ Below w.heap.size w w' := by
  obtain ⟨ad, cap, rfl⟩ := hp.sl
  have LP : Hid (∀ W, Tb w [.int .i64 x.id, .bool x.ma, .int .i64 x.sz, .string x.sum, .slice ad x.ps.length cap] [.int .i64 0, .bool false, .int .i64 0, .string ⟨#[]⟩, .slice none 0 0] 24 36 W → Calls Try.prog 11 #[.slice ad x.ps.length cap] W fun e w' => ∃ ad' cap', e = .returned (.slice ad' x.ps.length cap') ∧ (w'.cell? ⟨w.heap.size, 0, none⟩ = some (.int .i64 x.id) ∧ w'.cell? ⟨w.heap.size, 1, none⟩ = some (.bool x.ma) ∧ w'.cell? ⟨w.heap.size, 2, none⟩ = some (.int .i64 x.sz) ∧ w'.cell? ⟨w.heap.size, 3, none⟩ = some (.string x.sum) ∧ w'.cell? ⟨w.heap.size, 4, none⟩ = some (.slice ad x.ps.length cap)) ∧ Hid (OwnP w' (w.heap.size + 2) 74 (.slice ad' x.ps.length cap') x.ps) ∧ Hid (Tb w [.int .i64 x.id, .bool x.ma, .int .i64 x.sz, .string x.sum, .slice ad x.ps.length cap] [.int .i64 0, .bool false, .int .i64 0, .string ⟨#[]⟩, .slice none 0 0] 24 36 w')) := fun W hW => (lpiece_any _ x.ps W (hp.next hW.b) hl).mono fun e w' ⟨ad', cap', he, ho, hb⟩ => by
    have hn := hW.next hb
    exact ⟨ad', cap', he, ⟨hn.row.cellAt rfl, hn.row.cellAt rfl, hn.row.cellAt rfl, hn.row.cellAt rfl, hn.row.cellAt rfl⟩, ownsRow_base ho (by have := hW.res.lt; omega), hn⟩
  have TM := hid (Tb.made w [.int .i64 x.id, .bool x.ma, .int .i64 x.sz, .string x.sum, .slice ad x.ps.length cap] [.int .i64 0, .bool false, .int .i64 0, .string ⟨#[]⟩, .slice none 0 0] 24 36)
  clear hp hl
  unfold vnV
  obtain ⟨id, ma, sz, sum, ps⟩ := x
  simp only at *
  generalize hpn : ps.length = pn at *
  clear hpn
  have YD := hid TM.out.drew.five
  have KS : Hid (∀ W v', OwnP W (w.heap.size + 2) 74 v' ps → Tb w [.int .i64 id, .bool ma, .int .i64 sz, .string sum, .slice ad pn cap] [.int .i64 0, .bool false, .int .i64 0, .string ⟨#[]⟩, .slice none 0 0] 24 36 W → Hid (Tb w [.int .i64 id, .bool ma, .int .i64 sz, .string sum, .slice ad pn cap] [.int .i64 id, .bool ma, .int .i64 sz, .string sum, v'] 24 36 (((((W.setCell ⟨w.heap.size + 1, 0, none⟩ (.int .i64 id)).setCell ⟨w.heap.size + 1, 1, none⟩ (.bool ma)).setCell ⟨w.heap.size + 1, 2, none⟩ (.int .i64 sz)).setCell ⟨w.heap.size + 1, 3, none⟩ (.string sum)).setCell ⟨w.heap.size + 1, 4, none⟩ v')) ∧ Hid (OwnP (((((W.setCell ⟨w.heap.size + 1, 0, none⟩ (.int .i64 id)).setCell ⟨w.heap.size + 1, 1, none⟩ (.bool ma)).setCell ⟨w.heap.size + 1, 2, none⟩ (.int .i64 sz)).setCell ⟨w.heap.size + 1, 3, none⟩ (.string sum)).setCell ⟨w.heap.size + 1, 4, none⟩ v') w.heap.size 74 v' ps)) := fun W v' ho h => ⟨h.set _ _ _ _ _, ownsRow_base ((h.done _ _ _ _ _).2.2.ownsRow ho (fun g hg e => by have := ownsRow_ge ho hg; omega)) (by omega)⟩
  go_enter Try.func15, Try.ntmps15
  go_wp2
  go_region_held3 (fun w' => w'.cell? ⟨w.heap.size, 0, none⟩ = some (.int .i64 id) ∧ w'.cell? ⟨w.heap.size, 1, none⟩ = some (.bool ma) ∧ w'.cell? ⟨w.heap.size, 2, none⟩ = some (.int .i64 sz) ∧ w'.cell? ⟨w.heap.size, 3, none⟩ = some (.string sum) ∧ w'.cell? ⟨w.heap.size, 4, none⟩ = some (.slice ad pn cap)) (first | with_reducible exact YD.out | with_reducible assumption | with_reducible exact T6.out.five) (first | (go_at_call 11; with_reducible (refine (LP.out _ ?_).mono ?_); (exact TM.out.drew); rintro e w5 ⟨ad', cap', rfl, ZC, OP, T5⟩; obtain ⟨⟨r0, r1, r2, r3, r4⟩, q0, q1, q2, q3, q4⟩ := T5.out.may; obtain ⟨T6, O6⟩ := KS.out w5 (.slice ad' pn cap') OP.out T5.out))
  clear ZC r0 r1 r2 r3 r4 q0 q1 q2 q3 q4 KS YD OP T5 LP TM
  go_wp2
  refine bodyPost_ret (v := .agg #[.int .i64 id, .bool ma, .int .i64 sz, .string sum, .slice ad' pn cap']) (results_cell_row (p := 2) rfl _ _ (w.heap.size + 1) 36 #[.int .i64 id, .bool ma, .int .i64 sz, .string sum, .slice ad' pn cap'] (0, 0) _ rfl T6.out.res Try.underlying36 rfl (by kernel_rfl)) rfl ⟨ad', cap', rfl, O6.out, T6.out.b⟩
/-- a cell of the box set -/
theorem Tb.put {w W : World} {cs zs : List Value} {t1 t2 : TypeId} (h : Tb w cs zs t1 t2 W) (i : Nat) (x : Value) : Tb w (cs.set i x) zs t1 t2 (W.setCell ⟨w.heap.size, i, none⟩ x) := by
  have kS := keep_setCell W w.heap.size i x
  exact ⟨h.row.set i x, h.res.keep kS (by omega), h.b.trans (keep_below kS (fun k hk e => by omega) h.b.size)⟩
set_option maxRecDepth 100000 in
set_option maxHeartbeats 2000000 in
theorem own_any (pv : Value) (x : Vn) (w : World) (hp : PcI w pv x.ps) (hl : x.ps.length ≤ 1048576) (hs : ∀ p ∈ x.ps, p.id.size ≤ 1048576) (hu : x.sum.size ≤ 1048576) : Calls Try.prog 43 #[vnV (pv, x)] w fun e w' => ∃ ad cap, e = .returned (vnV (.slice ad x.ps.length cap, x)) ∧ OwnP w' w.heap.size 72 (.slice ad x.ps.length cap) x.ps ∧ Below w.heap.size w w' := by
  obtain ⟨ad, cap, rfl⟩ := hp.sl
  have CL := hid (fun W => clone_any x.sum W (Nat.le_trans hu (by omega)))
  have PA : Hid (∀ W, Below w.heap.size w W → Calls Try.prog 63 #[.slice ad x.ps.length cap] W fun e w' => ∃ ad cap, e = .returned (.slice ad x.ps.length cap) ∧ OwnP w' W.heap.size 72 (.slice ad x.ps.length cap) x.ps ∧ Below W.heap.size W w') := fun W hW => papart_any _ x.ps W (hp.next hW) hl hs
  have TM := hid (Tb.made w [.int .i64 x.id, .bool x.ma, .int .i64 x.sz, .string x.sum, .slice ad x.ps.length cap] [.int .i64 0, .bool false, .int .i64 0, .string ⟨#[]⟩, .slice none 0 0] 24 24)
  clear hp hl hs hu
  unfold vnV
  obtain ⟨id, ma, sz, sum, ps⟩ := x
  simp only at *
  generalize hpn : ps.length = pn at *
  clear hpn
  have y3 := TM.out.row.cellAt (o := 3) rfl
  go_enter Try.func43, Try.ntmps43
  go_wp2_with fail
  refine (CL.out _).mono ?_
  rintro e w1 ⟨rfl, b1⟩
  have T1 := hid (TM.out.next b1)
  clear CL b1 TM y3
  have y3 := T1.out.row.cellAt (o := 3) rfl
  have f3 := T1.out.row.frozen (o := 3)
  have T2 : Hid (Tb w [.int .i64 id, .bool ma, .int .i64 sz, .string sum, .slice ad pn cap] [.int .i64 0, .bool false, .int .i64 0, .string ⟨#[]⟩, .slice none 0 0] 24 24 (w1.setCell ⟨w.heap.size, 3, none⟩ (.string sum))) := T1.out.put 3 (.string sum)
  have y4 := T2.out.row.cellAt (o := 4) rfl
  go_wp2_with fail
  refine (PA.out _ T2.out.b).mono ?_
  rintro e w3 ⟨ad', cap', rfl, o3, b3⟩
  have T3 := hid (T2.out.next b3)
  have O3 : Hid (OwnP w3 (w.heap.size + 2) 72 (.slice ad' pn cap') ps) := ownsRow_base o3 (by have := T2.out.res.lt; omega)
  clear o3 b3 T1 T2 PA y3 f3 y4
  have y4 := T3.out.row.cellAt (o := 4) rfl
  have f4 := T3.out.row.frozen (o := 4)
  have T4 : Hid (Tb w [.int .i64 id, .bool ma, .int .i64 sz, .string sum, .slice ad' pn cap'] [.int .i64 0, .bool false, .int .i64 0, .string ⟨#[]⟩, .slice none 0 0] 24 24 (w3.setCell ⟨w.heap.size, 4, none⟩ (.slice ad' pn cap'))) := T3.out.put 4 (.slice ad' pn cap')
  have O4 : Hid (OwnP (w3.setCell ⟨w.heap.size, 4, none⟩ (.slice ad' pn cap')) (w.heap.size + 2) 72 (.slice ad' pn cap') ps) := (keep_setCell w3 w.heap.size 4 _).ownsRow O3.out (fun g hg e => by have := ownsRow_ge O3.out hg; omega)
  obtain ⟨z0, z1, z2, z3, z4⟩ := T4.out.five
  obtain ⟨⟨r0, r1, r2, r3, r4⟩, q0, q1, q2, q3, q4⟩ := T4.out.may
  have T5 := hid (T4.out.set (.int .i64 id) (.bool ma) (.int .i64 sz) (.string sum) (.slice ad' pn cap'))
  have O5 := hid (ownsRow_base ((T4.out.done (.int .i64 id) (.bool ma) (.int .i64 sz) (.string sum) (.slice ad' pn cap')).2.2.ownsRow O4.out (fun g hg e => by have := ownsRow_ge O4.out hg; omega)) (B' := w.heap.size) (by omega))
  clear O3 O4 T3 T4
  go_wp2
  refine bodyPost_ret (v := .agg #[.int .i64 id, .bool ma, .int .i64 sz, .string sum, .slice ad' pn cap']) (results_cell_row (p := 2) rfl _ _ (w.heap.size + 1) 24 #[.int .i64 id, .bool ma, .int .i64 sz, .string sum, .slice ad' pn cap'] (0, 0) _ rfl T5.out.res Try.underlying24 rfl (by kernel_rfl)) rfl ⟨ad', cap', rfl, O5.out, T5.out.b⟩
end Go.Proofs.Ytbiapepalkdkdaa
namespace Go.Proofs.Ytbiapepalkdkdaa
open Go.RowKit Go.Maps
set_option linter.unusedVariables false
set_option linter.unusedSimpArgs false

theorem elV : ElT 39 24 5 64 := ⟨Try.underlying39, ⟨.agg #[.int .i64 0, .bool false, .int .i64 0, .string ⟨#[]⟩, .slice none 0 0], by kernel_rfl, rfl⟩, by decide⟩
theorem elRV : ElT 42 36 5 64 := ⟨Try.underlying42, ⟨.agg #[.int .i64 0, .bool false, .int .i64 0, .string ⟨#[]⟩, .slice none 0 0], by kernel_rfl, rfl⟩, by decide⟩
/-- versions in a row that the call owns, with their pieces -/
def OwnQ (W : World) (B tv tp : Nat) (v : Value) (q : List (Value × Vn)) : Prop := W.ownsRow B tv 5 v q.length (vqC q) ∧ ∀ y ∈ q, OwnP W B tp y.1 y.2.ps
theorem OwnQ.next {W W' : World} {B tv tp : Nat} {v : Value} {q : List (Value × Vn)} (h : OwnQ W B tv tp v q) (hb : Below W.heap.size W W') : OwnQ W' B tv tp v q := ⟨(hb.keep (fun _ => False)).ownsRow h.1 (fun _ _ h => h), fun y hy => (h.2 y hy).next hb⟩
theorem OwnQ.vn {W : World} {B tv tp : Nat} {v : Value} {q : List (Value × Vn)} (h : OwnQ W B tv tp v q) : VnI W v q := ⟨RowC.own h.1, fun y hy => (h.2 y hy).pcs⟩
theorem ownQ_nil (W : World) (B tv tp : Nat) : OwnQ W B tv tp (.slice none 0 0) [] := ⟨⟨rfl, .inl ⟨rfl, rfl⟩⟩, fun y hy => by cases hy⟩
theorem OwnQ.app {W W' : World} {B tv tp : Nat} {v v' : Value} {q : List (Value × Vn)} {y : Value × Vn} (h : OwnQ W B tv tp v q) (hy : OwnP W B tp y.1 y.2.ps) (hne : tp ≠ tv) (hr : W'.ownsRow B tv 5 v' (q.length + 1) (vqC q ++ vnC y)) (hk : Keep (fun j => v.ownBlock = some j) W W') : OwnQ W' B tv tp v' (q ++ [y]) := by
  refine ⟨?_, fun z hz => ?_⟩
  · rw [vqC_app, vqC_one, List.length_append, List.length_singleton]
    exact hr
  · rcases List.mem_append.1 hz with hz | hz
    · exact hk.ownsRow (h.2 z hz) (fun g hg e => rows_apart2 (h.2 z hz) h.1 hne hg e)
    · rw [List.mem_singleton.1 hz]
      exact hk.ownsRow hy (fun g hg e => rows_apart2 hy h.1 hne hg e)
theorem vnC_one (ad : Option Addr) (n cap : Nat) (x : Vn) : ∀ u ∈ vnC (.slice ad n cap, x), u.oneCell' = true := by
  intro u hu
  simp [vnC] at hu
  rcases hu with rfl | rfl | rfl | rfl | rfl <;> rfl
set_option maxRecDepth 100000 in
set_option maxHeartbeats 2000000 in
theorem lrefs_any (v : Value) (q : List (Value × Vn)) (w : World) (hv : VnI w v q) (hl : q.length * 64 ≤ 140737488355328) (hs : ∀ y ∈ q, y.2.ps.length * 24 ≤ 140737488355328) : Calls Try.prog 18 #[v] w fun e w' => ∃ ad cap q', e = .returned (.slice ad q.length cap) ∧ vqL q' = vqL q ∧ OwnQ w' w.heap.size 36 74 (.slice ad q.length cap) q' ∧ Below w.heap.size w w' := by
  obtain ⟨ad, cap, rfl, hc⟩ := hv.form
  have HC := hid hc
  have HL := hid hl
  have HS : Hid (∀ (k : Nat) (hk : k < q.length) (W : World), Below w.heap.size w W → Calls Try.prog 15 #[vnV q[k]] W fun e w' => ∃ ad cap, e = .returned (vnV (.slice ad q[k].2.ps.length cap, q[k].2)) ∧ OwnP w' W.heap.size 74 (.slice ad q[k].2.ps.length cap) q[k].2.ps ∧ Below W.heap.size W w') := fun k hk W hW => by
    obtain ⟨b, off, _, _, _, _, _, _, _, hp⟩ := hc k hk
    have h := hs _ (List.getElem_mem hk)
    exact lref_any q[k].1 q[k].2 W (hp.next hW) h
  have HTK : Hid (∀ (k : Nat) (hk : k < q.length), (vqL q).take (k + 1) = (vqL q).take k ++ [q[k].2]) := fun k hk => by
    rw [List.take_succ_eq_append_getElem (by rw [vqL_len]; exact hk), vqL_get q k hk]
  have HZ : Hid ((vqL q).take q.length = vqL q) := by show _ = _; rw [← vqL_len, List.take_length]
  clear hc hv hl hs
  go_enter Try.func18, Try.ntmps18
  go_wp2
  go_loopw [3, 4] (fun o i wr => ∃ (k : Nat) (ad1 : Option Addr) (cp1 : Nat) (q1 : List (Value × Vn)), k ≤ q.length ∧ o = .slice ad1 k cp1 ∧ i = .int .i64 (k : Int) ∧ Hid (q1.length = k ∧ vqL q1 = (vqL q).take k ∧ OwnQ wr w.heap.size 36 74 (.slice ad1 k cp1) q1) ∧ Hid (Below w.heap.size w wr)) (fun _ i _ => q.length - (intOf i).toNat)
  case atStart => exact ⟨0, none, 0, [], Nat.zero_le _, rfl, rfl, ⟨rfl, rfl, ownQ_nil _ _ _ _⟩, Below.refl _ _⟩
  case round =>
    obtain ⟨k, ad1, cp1, q1, hk, rfl, rfl, HR, HB⟩ := hrel
    by_cases hlt : k < q.length
    · have hk1 : (k : Int) < (q.length : Int) := by omega
      have hk0 : (0 : Int) ≤ (k : Int) := by omega
      obtain ⟨b, off, rfl, hb, c0, c1, c2, c3, c4, hp⟩ := HC.out k hlt
      have d0 := (HB.out.cell (p := ⟨b, off + k * 5, none⟩) hb).trans c0
      have d1 := (HB.out.cell (p := ⟨b, off + k * 5 + 1, none⟩) hb).trans c1
      have d2 := (HB.out.cell (p := ⟨b, off + k * 5 + 2, none⟩) hb).trans c2
      have d3 := (HB.out.cell (p := ⟨b, off + k * 5 + 3, none⟩) hb).trans c3
      have d4 := (HB.out.cell (p := ⟨b, off + k * 5 + 4, none⟩) hb).trans c4
      have hwk : wrap64 ((k : Int) + 1) = ((k + 1 : Nat) : Int) := by have := HL.out; rw [IntWalk.wrap64_in _ (by omega)]; omega
      have HB1 : Hid (k + 1 ≤ 4611686018427387904) := by have := HL.out; show _ ≤ _; omega
      have HB2 : Hid ((k + 1) * 64 ≤ 140737488355328) := by have := HL.out; show _ ≤ _; omega
      have HLT := hid hlt
      have HT := hid (HTK.out k hlt)
      have CA := hid (HS.out k hlt)
      have hpf := hp.sl
      clear HC c0 c1 c2 c3 c4 hp HL hb HS HTK HZ
      generalize q[k] = y at *
      obtain ⟨pv, id, ma, sz, sum, ps⟩ := y
      unfold vnV at CA
      simp only at *
      obtain ⟨ad2, cap2, rfl⟩ := hpf
      generalize hpn : ps.length = pn at *
      clear hpn hlt hk
      go_wp2_with fail
      refine (CA.out _ HB.out).mono ?_
      rintro e w1 ⟨ad3, cap3, rfl, o3, b3⟩
      have HB3 : Hid (Below w.heap.size w w1) := below_on HB.out b3
      have O3 : Hid (OwnP w1 w.heap.size 74 (.slice ad3 pn cap3) ps) := ownsRow_base o3 (HB.out).size
      have R3 : Hid (OwnQ w1 w.heap.size 36 74 (.slice ad1 k cp1) q1) := by have := HR.out.2.2.next b3; exact this
      have HN1 := hid HR.out.1
      have HV1 : Hid (vqL (q1 ++ [(.slice ad3 pn cap3, ⟨id, ma, sz, sum, ps⟩)]) = (vqL q).take (k + 1)) := by show _ = _; rw [vqL_app, HR.out.2.1, HT.out]; rfl
      clear o3 b3 CA HB HR HT d0 d1 d2 d3 d4
      have HGA : Hid ((w1.alloc (.cells #[.int .i64 id, .bool ma, .int .i64 sz, .string sum, .slice ad3 pn cap3] 36)).ownsRow w.heap.size 36 5 (.slice ad1 k cp1) k (vqC q1)) := by
        have := (R3.out.next ((Below.refl _ _).alloc (Nat.le_refl _) (.cells #[.int .i64 id, .bool ma, .int .i64 sz, .string sum, .slice ad3 pn cap3] 36))).1
        rw [HN1.out] at this
        exact this
      have HGX : Hid (GSrc (w1.alloc (.cells #[.int .i64 id, .bool ma, .int .i64 sz, .string sum, .slice ad3 pn cap3] 36)) (.slice (some ⟨w1.heap.size, 0, none⟩) 1 1) 1 (vnC (.slice ad3 pn cap3, ⟨id, ma, sz, sum, ps⟩))) := gsrc_block (heap_alloc_new _ _)
      have HSZ : Hid (w.heap.size ≤ (w1.alloc (.cells #[.int .i64 id, .bool ma, .int .i64 sz, .string sum, .slice ad3 pn cap3] 36)).heap.size) := Nat.le_trans HB3.out.size (keep_alloc (fun _ => False) _ _).size
      have HO1 := hid (vnC_one ad3 pn cap3 ⟨id, ma, sz, sum, ps⟩)
      have FIN : Hid (∀ ad' cap' w', w'.ownsRow w.heap.size 36 5 (.slice ad' (k + 1) cap') (k + 1) (vqC q1 ++ vnC (.slice ad3 pn cap3, ⟨id, ma, sz, sum, ps⟩)) → Keep (fun j => (Value.slice ad1 k cp1).ownBlock = some j) (w1.alloc (.cells #[.int .i64 id, .bool ma, .int .i64 sz, .string sum, .slice ad3 pn cap3] 36)) w' → Hid ((q1 ++ [(Value.slice ad3 pn cap3, (⟨id, ma, sz, sum, ps⟩ : Vn))]).length = k + 1 ∧ vqL (q1 ++ [(Value.slice ad3 pn cap3, (⟨id, ma, sz, sum, ps⟩ : Vn))]) = (vqL q).take (k + 1) ∧ OwnQ w' w.heap.size 36 74 (.slice ad' (k + 1) cap') (q1 ++ [(Value.slice ad3 pn cap3, (⟨id, ma, sz, sum, ps⟩ : Vn))])) ∧ Hid (Below w.heap.size w w')) := fun ad' cap' w' hr hk' => by
        have hal := (Below.refl w1.heap.size w1).alloc (Nat.le_refl _) (.cells #[.int .i64 id, .bool ma, .int .i64 sz, .string sum, .slice ad3 pn cap3] 36)
        refine ⟨⟨by rw [List.length_append, HN1.out]; rfl, HV1.out, (R3.out.next hal).app (O3.out.next hal) (by decide) (by rw [HN1.out]; exact hr) hk'⟩, (below_al HB3.out _).trans (keep_below hk' (fun j hj e => by have := ownsRow_ge HGA.out e; omega) HSZ.out)⟩
      have HX2 : Hid ((vnC (.slice ad3 pn cap3, ⟨id, ma, sz, sum, ps⟩)).length = 1 * 5) := rfl
      generalize vnC (.slice ad3 pn cap3, ⟨id, ma, sz, sum, ps⟩) = XS at *
      go_wp2_with (at_builtin; refine wpl_gappL rfl _ _ elRV rfl w.heap.size (.slice ad1 k cp1) (.slice (some ⟨w1.heap.size, 0, none⟩) 1 1) (vqC q1) XS k 1 (k + 1) rfl rfl rfl HGA.out HSZ.out HGX.out HX2.out HO1.out HB1.out HB2.out ?_; intro ad' cap' w' hr' hk')
      obtain ⟨F1, F2⟩ := FIN.out _ _ _ hr' hk'
      clear hr' hk' FIN HGA HGX HSZ R3 O3 HB3
      go_wp2
      exact ⟨⟨k + 1, _, _, _, HLT.out, rfl, by first | rw [hwk] | rfl | simp, F1, F2⟩, by (try rw [hwk]); have := HLT.out; simp [intOf]; omega⟩
    · have hke : k = q.length := by omega
      have hd : decide ((k : Int) < (q.length : Int)) = false := decide_eq_false (by omega)
      have hd2 : decide (k < q.length) = false := decide_eq_false hlt
      have HF : Hid (vqL q1 = vqL q ∧ OwnQ wr w.heap.size 36 74 (.slice ad1 q.length cp1) q1) := by
        obtain ⟨_, h2, h3⟩ := HR.out
        rw [hke, HZ.out] at h2
        rw [hke] at h3
        exact ⟨h2, h3⟩
      have HKE := hid hke
      clear HC HTK HZ HR HL hke hlt hk HS
      go_wp2
      go_ret
      exact ⟨ad1, cp1, q1, by rw [HKE.out]; rfl, HF.out.1, HF.out.2, HB.out⟩
set_option maxRecDepth 100000 in
set_option maxHeartbeats 2000000 in
theorem vapart_any (v : Value) (q : List (Value × Vn)) (w : World) (hv : VnI w v q) (hl : q.length * 64 ≤ 140737488355328) (hs : ∀ y ∈ q, y.2.ps.length ≤ 1048576 ∧ (∀ p ∈ y.2.ps, p.id.size ≤ 1048576) ∧ y.2.sum.size ≤ 1048576) : Calls Try.prog 40 #[v] w fun e w' => ∃ ad cap q', e = .returned (.slice ad q.length cap) ∧ vqL q' = vqL q ∧ OwnQ w' w.heap.size 24 72 (.slice ad q.length cap) q' ∧ Below w.heap.size w w' := by
  obtain ⟨ad, cap, rfl, hc⟩ := hv.form
  have HC := hid hc
  have HL := hid hl
  have HS : Hid (∀ (k : Nat) (hk : k < q.length) (W : World), Below w.heap.size w W → Calls Try.prog 43 #[vnV q[k]] W fun e w' => ∃ ad cap, e = .returned (vnV (.slice ad q[k].2.ps.length cap, q[k].2)) ∧ OwnP w' W.heap.size 72 (.slice ad q[k].2.ps.length cap) q[k].2.ps ∧ Below W.heap.size W w') := fun k hk W hW => by
    obtain ⟨b, off, _, _, _, _, _, _, _, hp⟩ := hc k hk
    have h := hs _ (List.getElem_mem hk)
    exact own_any q[k].1 q[k].2 W (hp.next hW) h.1 h.2.1 h.2.2
  have HTK : Hid (∀ (k : Nat) (hk : k < q.length), (vqL q).take (k + 1) = (vqL q).take k ++ [q[k].2]) := fun k hk => by
    rw [List.take_succ_eq_append_getElem (by rw [vqL_len]; exact hk), vqL_get q k hk]
  have HZ : Hid ((vqL q).take q.length = vqL q) := by show _ = _; rw [← vqL_len, List.take_length]
  clear hc hv hl hs
  go_enter Try.func40, Try.ntmps40
  go_wp2
  go_loopw [3, 8] (fun o i wr => ∃ (k : Nat) (ad1 : Option Addr) (cp1 : Nat) (q1 : List (Value × Vn)), k ≤ q.length ∧ o = .slice ad1 k cp1 ∧ i = .int .i64 (k : Int) ∧ Hid (q1.length = k ∧ vqL q1 = (vqL q).take k ∧ OwnQ wr w.heap.size 24 72 (.slice ad1 k cp1) q1) ∧ Hid (Below w.heap.size w wr)) (fun _ i _ => q.length - (intOf i).toNat)
  case atStart => exact ⟨0, none, 0, [], Nat.zero_le _, rfl, rfl, ⟨rfl, rfl, ownQ_nil _ _ _ _⟩, Below.refl _ _⟩
  case round =>
    obtain ⟨k, ad1, cp1, q1, hk, rfl, rfl, HR, HB⟩ := hrel
    by_cases hlt : k < q.length
    · have hk1 : (k : Int) < (q.length : Int) := by omega
      have hk0 : (0 : Int) ≤ (k : Int) := by omega
      obtain ⟨b, off, rfl, hb, c0, c1, c2, c3, c4, hp⟩ := HC.out k hlt
      have d0 := (HB.out.cell (p := ⟨b, off + k * 5, none⟩) hb).trans c0
      have d1 := (HB.out.cell (p := ⟨b, off + k * 5 + 1, none⟩) hb).trans c1
      have d2 := (HB.out.cell (p := ⟨b, off + k * 5 + 2, none⟩) hb).trans c2
      have d3 := (HB.out.cell (p := ⟨b, off + k * 5 + 3, none⟩) hb).trans c3
      have d4 := (HB.out.cell (p := ⟨b, off + k * 5 + 4, none⟩) hb).trans c4
      have hwk : wrap64 ((k : Int) + 1) = ((k + 1 : Nat) : Int) := by have := HL.out; rw [IntWalk.wrap64_in _ (by omega)]; omega
      have HB1 : Hid (k + 1 ≤ 4611686018427387904) := by have := HL.out; show _ ≤ _; omega
      have HB2 : Hid ((k + 1) * 64 ≤ 140737488355328) := by have := HL.out; show _ ≤ _; omega
      have HLT := hid hlt
      have HT := hid (HTK.out k hlt)
      have CA := hid (HS.out k hlt)
      have hpf := hp.sl
      clear HC c0 c1 c2 c3 c4 hp HL hb HS HTK HZ
      generalize q[k] = y at *
      obtain ⟨pv, id, ma, sz, sum, ps⟩ := y
      unfold vnV at CA
      simp only at *
      obtain ⟨ad2, cap2, rfl⟩ := hpf
      generalize hpn : ps.length = pn at *
      clear hpn hlt hk
      have HBX : Hid (Below w.heap.size w (wr.alloc (.cells #[.int .i64 id, .bool ma, .int .i64 sz, .string sum, .slice ad2 pn cap2] 24))) := below_al HB.out _
      have SR := srow wr [.int .i64 id, .bool ma, .int .i64 sz, .string sum, .slice ad2 pn cap2] 24
      have y0 := SR.cellAt (o := 0) rfl
      have y1 := SR.cellAt (o := 1) rfl
      have y2 := SR.cellAt (o := 2) rfl
      have y3 := SR.cellAt (o := 3) rfl
      have y4 := SR.cellAt (o := 4) rfl
      clear SR
      go_wp2_with fail
      refine (CA.out _ HBX.out).mono ?_
      rintro e w1 ⟨ad3, cap3, rfl, o3, b3⟩
      have HB3 : Hid (Below w.heap.size w w1) := below_on HBX.out b3
      have O3 : Hid (OwnP w1 w.heap.size 72 (.slice ad3 pn cap3) ps) := ownsRow_base o3 (HBX.out).size
      have R3 : Hid (OwnQ w1 w.heap.size 24 72 (.slice ad1 k cp1) q1) := (HR.out.2.2.next ((Below.refl _ _).alloc (Nat.le_refl _) _)).next b3
      have HN1 := hid HR.out.1
      have HV1 : Hid (vqL (q1 ++ [(.slice ad3 pn cap3, ⟨id, ma, sz, sum, ps⟩)]) = (vqL q).take (k + 1)) := by show _ = _; rw [vqL_app, HR.out.2.1, HT.out]; rfl
      clear o3 b3 CA HB HR HT d0 d1 d2 d3 d4 HBX y0 y1 y2 y3 y4
      have HGA : Hid ((w1.alloc (.cells #[.int .i64 id, .bool ma, .int .i64 sz, .string sum, .slice ad3 pn cap3] 24)).ownsRow w.heap.size 24 5 (.slice ad1 k cp1) k (vqC q1)) := by
        have := (R3.out.next ((Below.refl _ _).alloc (Nat.le_refl _) (.cells #[.int .i64 id, .bool ma, .int .i64 sz, .string sum, .slice ad3 pn cap3] 24))).1
        rw [HN1.out] at this
        exact this
      have HGX : Hid (GSrc (w1.alloc (.cells #[.int .i64 id, .bool ma, .int .i64 sz, .string sum, .slice ad3 pn cap3] 24)) (.slice (some ⟨w1.heap.size, 0, none⟩) 1 1) 1 (vnC (.slice ad3 pn cap3, ⟨id, ma, sz, sum, ps⟩))) := gsrc_block (heap_alloc_new _ _)
      have HSZ : Hid (w.heap.size ≤ (w1.alloc (.cells #[.int .i64 id, .bool ma, .int .i64 sz, .string sum, .slice ad3 pn cap3] 24)).heap.size) := Nat.le_trans HB3.out.size (keep_alloc (fun _ => False) _ _).size
      have HO1 := hid (vnC_one ad3 pn cap3 ⟨id, ma, sz, sum, ps⟩)
      have FIN : Hid (∀ ad' cap' w', w'.ownsRow w.heap.size 24 5 (.slice ad' (k + 1) cap') (k + 1) (vqC q1 ++ vnC (.slice ad3 pn cap3, ⟨id, ma, sz, sum, ps⟩)) → Keep (fun j => (Value.slice ad1 k cp1).ownBlock = some j) (w1.alloc (.cells #[.int .i64 id, .bool ma, .int .i64 sz, .string sum, .slice ad3 pn cap3] 24)) w' → Hid ((q1 ++ [(Value.slice ad3 pn cap3, (⟨id, ma, sz, sum, ps⟩ : Vn))]).length = k + 1 ∧ vqL (q1 ++ [(Value.slice ad3 pn cap3, (⟨id, ma, sz, sum, ps⟩ : Vn))]) = (vqL q).take (k + 1) ∧ OwnQ w' w.heap.size 24 72 (.slice ad' (k + 1) cap') (q1 ++ [(Value.slice ad3 pn cap3, (⟨id, ma, sz, sum, ps⟩ : Vn))])) ∧ Hid (Below w.heap.size w w')) := fun ad' cap' w' hr hk' => by
        have hal := (Below.refl w1.heap.size w1).alloc (Nat.le_refl _) (.cells #[.int .i64 id, .bool ma, .int .i64 sz, .string sum, .slice ad3 pn cap3] 24)
        refine ⟨⟨by rw [List.length_append, HN1.out]; rfl, HV1.out, (R3.out.next hal).app (O3.out.next hal) (by decide) (by rw [HN1.out]; exact hr) hk'⟩, (below_al HB3.out _).trans (keep_below hk' (fun j hj e => by have := ownsRow_ge HGA.out e; omega) HSZ.out)⟩
      have HX2 : Hid ((vnC (.slice ad3 pn cap3, ⟨id, ma, sz, sum, ps⟩)).length = 1 * 5) := rfl
      generalize vnC (.slice ad3 pn cap3, ⟨id, ma, sz, sum, ps⟩) = XS at *
      go_wp2_with (at_builtin; refine wpl_gappL rfl _ _ elV rfl w.heap.size (.slice ad1 k cp1) (.slice (some ⟨w1.heap.size, 0, none⟩) 1 1) (vqC q1) XS k 1 (k + 1) rfl rfl rfl HGA.out HSZ.out HGX.out HX2.out HO1.out HB1.out HB2.out ?_; intro ad' cap' w' hr' hk')
      obtain ⟨F1, F2⟩ := FIN.out _ _ _ hr' hk'
      clear hr' hk' FIN HGA HGX HSZ R3 O3 HB3
      go_wp2
      exact ⟨⟨k + 1, _, _, _, HLT.out, rfl, by first | rw [hwk] | rfl | simp, F1, F2⟩, by (try rw [hwk]); have := HLT.out; simp [intOf]; omega⟩
    · have hke : k = q.length := by omega
      have hd : decide ((k : Int) < (q.length : Int)) = false := decide_eq_false (by omega)
      have hd2 : decide (k < q.length) = false := decide_eq_false hlt
      have HF : Hid (vqL q1 = vqL q ∧ OwnQ wr w.heap.size 24 72 (.slice ad1 q.length cp1) q1) := by
        obtain ⟨_, h2, h3⟩ := HR.out
        rw [hke, HZ.out] at h2
        rw [hke] at h3
        exact ⟨h2, h3⟩
      have HKE := hid hke
      clear HC HTK HZ HR HL hke hlt hk HS
      go_wp2
      go_ret
      exact ⟨ad1, cp1, q1, by rw [HKE.out]; rfl, HF.out.1, HF.out.2, HB.out⟩
end Go.Proofs.Ytbiapepalkdkdaa
