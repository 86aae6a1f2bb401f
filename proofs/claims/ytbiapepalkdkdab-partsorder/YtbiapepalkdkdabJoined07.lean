/- Joined: Pieces that are copied: the law's Piece, the program's Apart. Parts in memory. Which lists are parts: the program. A version as the document has it, and one in memory of its own. Parts that are copied: the program's apart. Which lists are parts: the reference. Parts as the law hands them to the reference: law14.Refs. -/
import Derived.Test.YtbiapepalkdkdabJoined05
import Derived.Test.YtbiapepalkdkdabJoined04
import Derived.Test.YtbiapepalkdkdabJoined06
import Derived.Deep.RegionLaw
import Derived.Deep.RegionHeld3
import Derived.Test.YtbiapepalkdkdabJoined03
namespace Go.Proofs.Ytbiapepalkdkdab
open Go.RowKit Go.Maps
set_option linter.unusedVariables false
set_option linter.unusedSimpArgs false

theorem elP : ElT 23 69 2 24 := ⟨Try.underlying23, ⟨.agg #[.string ⟨#[]⟩, .int .i64 0], by kernel_rfl, rfl⟩, by decide⟩
theorem elRP : ElT 33 88 2 24 := ⟨Try.underlying33, ⟨.agg #[.string ⟨#[]⟩, .int .i64 0], by kernel_rfl, rfl⟩, by decide⟩
/-- pieces in a row that the call owns -/
def OwnP (w : World) (B t : Nat) (v : Value) (l : List Pc) : Prop := w.ownsRow B t 2 v l.length (pcsC l)
theorem OwnP.pcs {w : World} {B t : Nat} {v : Value} {l : List Pc} (h : OwnP w B t v l) : PcI w v l := RowC.own h
theorem OwnP.form {w : World} {B t : Nat} {v : Value} {l : List Pc} (h : OwnP w B t v l) : ∃ ad cap, v = .slice ad l.length cap := row_form h
theorem OwnP.next {w w' : World} {B t : Nat} {v : Value} {l : List Pc} (h : OwnP w B t v l) (hB : Below w.heap.size w w') : OwnP w' B t v l := (hB.keep (fun _ => False)).ownsRow h (fun _ _ h => h)
theorem ownP_nil (w : World) (B t : Nat) : OwnP w B t (.slice none 0 0) [] := ⟨rfl, .inl ⟨rfl, rfl⟩⟩
theorem pcC_one (p : Pc) : ∀ u ∈ pcC p, u.oneCell' = true := by intro u hu; simp [pcC] at hu; rcases hu with rfl | rfl <;> rfl
set_option maxRecDepth 100000 in
set_option maxHeartbeats 1000000 in
theorem lpiece_any (v : Value) (l : List Pc) (w : World) (hv : PcI w v l) (hl : l.length * 24 ≤ 140737488355328) : Calls Try.prog 34 #[v] w fun e w' => ∃ ad cap, e = .returned (.slice ad l.length cap) ∧ OwnP w' w.heap.size 88 (.slice ad l.length cap) l ∧ Below w.heap.size w w' := by
  obtain ⟨ad, cap, rfl, hc⟩ := hv.form
  have HC := hid hc
  have HL := hid hl
  have HTK : Hid (∀ (k : Nat) (hk : k < l.length), pcsC (l.take (k + 1)) = pcsC (l.take k) ++ pcC l[k]) := fun k hk => pcsC_take l k hk
  have HZ : Hid (l.take l.length = l) := List.take_length
  have HR0 : Hid (w.ownsRow w.heap.size 88 2 (.slice none 0 0) 0 (pcsC (l.take 0))) := ⟨rfl, .inl ⟨rfl, rfl⟩⟩
  clear hc hv hl
  go_enter Try.func34, Try.ntmps34
  go_wp2
  go_loopw [3, 4] (fun o i wr => ∃ (k : Nat) (ad1 : Option Addr) (cp1 : Nat), k ≤ l.length ∧ o = .slice ad1 k cp1 ∧ i = .int .i64 (k : Int) ∧ Hid (wr.ownsRow w.heap.size 88 2 (.slice ad1 k cp1) k (pcsC (l.take k))) ∧ Hid (Below w.heap.size w wr)) (fun _ i _ => l.length - (intOf i).toNat)
  case atStart => exact ⟨0, none, 0, Nat.zero_le _, rfl, rfl, HR0, Below.refl _ _⟩
  case round =>
    clear HR0
    obtain ⟨k, ad1, cp1, hk, rfl, rfl, HR, HB⟩ := hrel
    by_cases hlt : k < l.length
    · have hk1 : (k : Int) < (l.length : Int) := by omega
      have hk0 : (0 : Int) ≤ (k : Int) := by omega
      obtain ⟨b, off, rfl, hb, c0, c1⟩ := HC.out k hlt
      have d0 := (HB.out.cell (p := ⟨b, off + k * 2, none⟩) hb).trans c0
      have d1 := (HB.out.cell (p := ⟨b, off + k * 2 + 1, none⟩) hb).trans c1
      have hwk : wrap64 ((k : Int) + 1) = ((k + 1 : Nat) : Int) := by have := HL.out; rw [IntWalk.wrap64_in _ (by omega)]; omega
      have HPL := hid (HTK.out k hlt)
      have HO1 := hid (pcC_one l[k])
      have HX1 : Hid (pcC l[k] = [.string l[k].id, .int .i64 l[k].sz]) := rfl
      have HX2 : Hid ((pcC l[k]).length = 1 * 2) := rfl
      have HB1 : Hid (k + 1 ≤ 4611686018427387904) := by have := HL.out; show _ ≤ _; omega
      have HB2 : Hid ((k + 1) * 24 ≤ 140737488355328) := by have := HL.out; show _ ≤ _; omega
      have HLT := hid hlt
      generalize l[k] = p at *
      obtain ⟨id, sz⟩ := p
      simp only at d0 d1 HX1
      generalize pcC ⟨id, sz⟩ = XS at *
      have HGA : Hid ((wr.alloc (.cells #[.string id, .int .i64 sz] 88)).ownsRow w.heap.size 88 2 (.slice ad1 k cp1) k (pcsC (l.take k))) := (keep_alloc (fun _ => False) _ _).ownsRow HR.out (fun _ _ h => h)
      have HGX : Hid (GSrc (wr.alloc (.cells #[.string id, .int .i64 sz] 88)) (.slice (some ⟨wr.heap.size, 0, none⟩) 1 1) 1 XS) := by
        rw [HX1.out]; exact gsrc_block (heap_alloc_new _ _)
      have HSZ : Hid (w.heap.size ≤ (wr.alloc (.cells #[.string id, .int .i64 sz] 88)).heap.size) := Nat.le_trans HB.out.size (keep_alloc (fun _ => False) _ _).size
      have FIN : Hid (∀ ad' cap' w', w'.ownsRow w.heap.size 88 2 (.slice ad' (k + 1) cap') (k + 1) (pcsC (l.take k) ++ XS) → Keep (fun j => (Value.slice ad1 k cp1).ownBlock = some j) (wr.alloc (.cells #[.string id, .int .i64 sz] 88)) w' → Hid (w'.ownsRow w.heap.size 88 2 (.slice ad' (k + 1) cap') (k + 1) (pcsC (l.take (k + 1)))) ∧ Hid (Below w.heap.size w w')) := fun ad' cap' w' hr hk' => by
        refine ⟨?_, (below_al HB.out _).trans (keep_below hk' (fun j hj e => by have := ownsRow_ge HR.out e; omega) HSZ.out)⟩
        show World.ownsRow _ _ _ _ _ _ _
        rw [HPL.out]; exact hr
      clear HC HTK HZ c0 c1 hb HL HR HPL HX1 hlt hk
      go_wp2_with (at_builtin; refine wpl_gappL rfl _ _ elRP rfl w.heap.size (.slice ad1 k cp1) (.slice (some ⟨wr.heap.size, 0, none⟩) 1 1) (pcsC (l.take k)) XS k 1 (k + 1) rfl rfl rfl HGA.out HSZ.out HGX.out HX2.out HO1.out HB1.out HB2.out ?_; intro ad' cap' w' hr' hk')
      obtain ⟨F1, F2⟩ := FIN.out _ _ _ hr' hk'
      clear hr' hk' FIN HGA HGX HSZ d0 d1
      go_wp2
      exact ⟨⟨k + 1, _, _, HLT.out, rfl, by first | rw [hwk] | rfl | simp, F1, F2⟩, by (try rw [hwk]); have := HLT.out; simp [intOf]; omega⟩
    · have hke : k = l.length := by omega
      have hd : decide ((k : Int) < (l.length : Int)) = false := decide_eq_false (by omega)
      have hd2 : decide (k < l.length) = false := decide_eq_false hlt
      have HF : Hid (wr.ownsRow w.heap.size 88 2 (.slice ad1 k cp1) l.length (pcsC l)) := by
        have := HR.out
        rw [hke, HZ.out] at this
        rw [hke]
        exact this
      have HKE := hid hke
      clear HC HTK HZ HR HL hke hlt hk
      go_wp2
      go_ret
      refine ⟨ad1, cp1, ?_, ?_, HB.out⟩
      · rw [HKE.out]; rfl
      · have := HF.out; rw [HKE.out] at this; exact this
set_option maxRecDepth 100000 in
set_option maxHeartbeats 4000000 in
theorem papart_any (v : Value) (l : List Pc) (w : World) (hv : PcI w v l) (hl : l.length ≤ 1048576) (hb : ∀ x ∈ l, x.id.size ≤ 1048576) :
    Calls Try.prog 72 #[v] w fun e w' => ∃ ad cap, e = .returned (.slice ad l.length cap) ∧ OwnP w' w.heap.size 69 (.slice ad l.length cap) l ∧ Below w.heap.size w w' := by
  obtain ⟨ad, cap, rfl, hc⟩ := hv.form
  have HC : Hid (∀ (k : Nat) (hk : k < l.length) (W : World), Keep (fun _ => False) w W → ∃ g off, ad = some ⟨g, off, none⟩ ∧ W.cell? ⟨g, off + k * 2, none⟩ = some (.string l[k].id) ∧ W.cell? ⟨g, off + k * 2 + 1, none⟩ = some (.int .i64 l[k].sz)) := by
    intro k hk W hW
    obtain ⟨g, off, e, hg, c0, c1⟩ := hc k hk
    exact ⟨g, off, e, (hW.cell hg (fun h => h)).trans c0, (hW.cell hg (fun h => h)).trans c1⟩
  have HT : Hid (∀ (k : Nat) (hk : k < l.length), pcsC (l.take (k + 1)) = pcsC (l.take k) ++ pcC l[k]) := fun k hk => pcsC_take l k hk
  have HB : Hid (∀ (k : Nat) (hk : k < l.length), (l[k]).id.size ≤ 1048576) := fun k hk => hb _ (List.getElem_mem hk)
  have HZ : Hid (l.take l.length = l) := List.take_length
  have HR0 : Hid (w.ownsRow w.heap.size 69 2 (.slice none 0 0) 0 (pcsC (l.take 0))) := ⟨rfl, .inl ⟨rfl, rfl⟩⟩
  clear hv hb hc
  go_enter Try.func72, Try.ntmps72
  go_wp2
  go_loopw [3, 8] (fun o i wr => ∃ (k : Nat) (ad0 : Option Addr) (cp0 : Nat), k ≤ l.length ∧ i = .int .i64 k ∧ o = .slice ad0 k cp0 ∧ Hid (wr.ownsRow w.heap.size 69 2 (.slice ad0 k cp0) k (pcsC (l.take k))) ∧ Hid (Keep (fun _ => False) w wr)) (fun _ i _ => l.length - (intOf i).toNat)
  case atStart => exact ⟨0, none, 0, by omega, rfl, rfl, HR0, Keep.refl _ _⟩
  case round =>
    clear HR0
    obtain ⟨k, ad0, cp0, hk, rfl, rfl, HR, HK⟩ := hrel
    by_cases hlt : k < l.length
    · have hk0 : (0 : Int) ≤ (k : Int) := by omega
      have hk1 : (k : Int) < (l.length : Int) := by omega
      obtain ⟨g, off, e1, c0, c1⟩ := HC.out k hlt wr HK.out
      subst e1
      have HKL := hid (HB.out k hlt)
      have HPL := hid (HT.out k hlt)
      clear HC HB HT HZ
      have HX1 : Hid (pcC l[k] = [.string l[k].id, .int .i64 l[k].sz]) := rfl
      have HC2 : Hid ((pcC l[k]).length = 1 * 2) := rfl
      have HONE := hid (pcC_one l[k])
      generalize l[k] = y at *
      obtain ⟨NN, F⟩ := y
      simp only at HKL c0 c1 HX1
      have CL0 := hid (fun W => clone_any NN W (Nat.le_trans HKL.out (by omega)))
      generalize pcC ⟨NN, F⟩ = XS at *
      clear HKL
      have CP : Hid (∀ W, Keep (fun _ => False) (wr.alloc (.cells #[.string NN, .int .i64 F] 69)) W → Calls Try.prog 71 #[.string NN] W fun e w' => e = .returned (.string NN) ∧ Hid (Keep (fun _ => False) wr w') ∧ w'.cell? ⟨wr.heap.size, 1, none⟩ = some (.int .i64 F) ∧ w'.cell? ⟨wr.heap.size, 0, none⟩ = some (.string NN)) := fun W hW => (CL0.out W).mono fun e w' ⟨he, hbl⟩ => by
        have k2 := hW.trans (hbl.keep _)
        have hlt4 : wr.heap.size < (wr.alloc (.cells #[.string NN, .int .i64 F] 69)).heap.size := by simp
        exact ⟨he, (keep_alloc _ _ _).trans k2, (k2.cell hlt4 (fun h => h)).trans (RowIs.cellAt (cs := [.string NN, .int .i64 F]) (t := 69) (heap_alloc_new _ _) rfl), (k2.cell hlt4 (fun h => h)).trans (RowIs.cellAt (cs := [.string NN, .int .i64 F]) (t := 69) (heap_alloc_new _ _) rfl)⟩
      have KA : Hid (Keep (fun _ => False) (wr.alloc (.cells #[.string NN, .int .i64 F] 69)) (wr.alloc (.cells #[.string NN, .int .i64 F] 69))) := Keep.refl _ _
      have KD : Hid (Keep (fun _ => False) (wr.alloc (.cells #[.string NN, .int .i64 F] 69)) (wr.alloc (.cells #[.string NN, .int .i64 F] 69)).drew) := keep_drew _ _
      have AP : Hid (∀ w1 X, Keep (fun _ => False) wr w1 → X = Obj.cells #[.string NN, .int .i64 F] 69 → (w1.alloc X).ownsRow w.heap.size 69 2 (.slice ad0 k cp0) k (pcsC (l.take k)) ∧ GSrc (w1.alloc X) (.slice (some ⟨w1.heap.size, 0, none⟩) 1 1) 1 XS) := fun w1 X kk e => by
        subst e
        refine ⟨(kk.trans (keep_alloc _ _ _)).ownsRow HR.out (fun _ _ h => h), ?_⟩
        rw [HX1.out]
        exact gsrc_block (heap_alloc_new _ _)
      have HBs : Hid (∀ w1 X, Keep (fun _ => False) wr w1 → w.heap.size ≤ (World.alloc w1 X).heap.size) := fun w1 X kk => Nat.le_trans HK.out.size (Nat.le_trans kk.size (keep_alloc (fun _ => False) _ _).size)
      have FIN : Hid (∀ w0 w2 ad' cap', Keep (fun _ => False) wr w0 → w2.ownsRow w.heap.size 69 2 (.slice ad' (k + 1) cap') (k + 1) (pcsC (l.take k) ++ XS) → Keep (fun j => (Value.slice ad0 k cp0).ownBlock = some j) w0 w2 → Hid (w2.ownsRow w.heap.size 69 2 (.slice ad' (k + 1) cap') (k + 1) (pcsC (l.take (k + 1)))) ∧ Hid (Keep (fun _ => False) w w2)) := fun w0 w2 ad' cap' kk hr hk' => by
        refine ⟨?_, (HK.out.trans kk).then hk' fun j hj e => ?_⟩
        · show World.ownsRow _ _ _ _ _ _ _
          rw [HPL.out]; exact hr
        · have := ownsRow_ge HR.out e
          omega
      have HLE : Hid (k + 1 ≤ 70368744177) := by show _ ≤ _; omega
      have HLB : Hid ((k + 1) * 24 ≤ 140737488355328) := by show _ ≤ _; omega
      clear CL0 HX1 HPL HR HK
      go_wp2
      go_region_law (first | (refine step_gapp (w0 := w1.alloc (Obj.cells #[.string NN, .int .i64 F] 69)) (by rfl) _ _ elP (by rfl) w.heap.size (.slice ad0 k cp0) (.slice (some ⟨w1.heap.size, 0, none⟩) 1 1) (pcsC (l.take k)) XS k 1 (k + 1) (by rfl) (Keep.refl _ _) (by rfl) (by rfl) (AP.out w1 _ hk1.out rfl).1 (HBs.out _ _ hk1.out) (AP.out w1 _ hk1.out rfl).2 HC2.out HONE.out HLE.out HLB.out ?_; intro ad' cap' w2 hr2 hk2; obtain ⟨HR2, HK2⟩ := FIN.out _ _ ad' cap' (hk1.out.trans (keep_alloc _ _ _)) hr2 hk2) | (go_simp; go_at_call 71; first | with_reducible (refine (CP.out _ KA.out).mono ?_) | with_reducible (refine (CP.out _ KD.out).mono ?_); rintro e w1 ⟨rfl, hk1, hc1, hc2⟩; go_simp))
      all_goals
        clear AP FIN CP KA KD HBs
        go_wp2
        exact ⟨⟨k + 1, _, _, by omega, by go_num, rfl, HR2, HK2⟩, by simp [intOf]; omega⟩
    · have hd : decide ((k : Int) < (l.length : Int)) = false := decide_eq_false (by omega)
      have hke : k = l.length := by omega
      have HF : Hid (wr.ownsRow w.heap.size 69 2 (.slice ad0 k cp0) l.length (pcsC l)) := by
        have := HR.out
        rw [hke, HZ.out] at this
        rw [hke]
        exact this
      have HKE := hid hke
      clear HC HB HT HZ HR hke
      go_wp2
      go_ret
      refine ⟨ad0, cp0, ?_, ?_, keep_below HK.out (fun _ _ h => h) (Nat.le_refl _)⟩
      · rw [HKE.out]; rfl
      · have := HF.out; rw [HKE.out] at this; exact this
end Go.Proofs.Ytbiapepalkdkdab
namespace Go.Proofs.Ytbiapepalkdkdab
open Go.RowKit Go.Maps
set_option linter.unusedVariables false
set_option linter.unusedSimpArgs false

def ptC (y : Value × Pt) : List Value := [.int .i64 y.2.n, .int .i64 y.2.sz, .string y.2.sum, y.1]
def tqC (q : List (Value × Pt)) : List Value := q.flatMap ptC
def tqL (q : List (Value × Pt)) : List Pt := q.map (·.2)
theorem tqL_len (q : List (Value × Pt)) : (tqL q).length = q.length := List.length_map ..
theorem tqC_get (q : List (Value × Pt)) (k : Nat) (hk : k < q.length) (i : Nat) (hi : i < 4) : (tqC q)[k * 4 + i]? = (ptC q[k])[i]? := flat_get ptC 4 q (fun _ _ => rfl) k hk i hi
theorem tqC_len (q : List (Value × Pt)) : (tqC q).length = q.length * 4 := by
  induction q with
  | nil => rfl
  | cons p r ih => simp only [tqC, List.flatMap_cons, List.length_append, List.length_cons] at ih ⊢; rw [ih]; simp [ptC]; omega
theorem tqC_app (q r : List (Value × Pt)) : tqC (q ++ r) = tqC q ++ tqC r := List.flatMap_append
theorem tqC_one (y : Value × Pt) : tqC [y] = ptC y := by simp [tqC]
theorem tqL_app (q r : List (Value × Pt)) : tqL (q ++ r) = tqL q ++ tqL r := List.map_append
theorem tqL_get (q : List (Value × Pt)) (k : Nat) (hk : k < q.length) : (tqL q)[k]'(by rw [tqL_len]; exact hk) = q[k].2 := by simp [tqL]
theorem tq_mem {q : List (Value × Pt)} {y : Value × Pt} (h : y ∈ q) : y.2 ∈ tqL q := List.mem_map.2 ⟨y, h, rfl⟩
/-- the pieces of each lie in memory -/
def TqP (w : World) (q : List (Value × Pt)) : Prop := ∀ y ∈ q, PcI w y.1 y.2.ps
theorem TqP.next {w w' : World} {q : List (Value × Pt)} (h : TqP w q) (hB : Below w.heap.size w w') : TqP w' q := fun y hy => (h y hy).next hB
/-- parts in memory -/
def PtI (w : World) (v : Value) (q : List (Value × Pt)) : Prop := RowC w v q.length (tqC q) ∧ TqP w q
theorem PtI.next {w w' : World} {v : Value} {q : List (Value × Pt)} (h : PtI w v q) (hB : Below w.heap.size w w') : PtI w' v q := ⟨RowC.next h.1 hB, h.2.next hB⟩
theorem PtI.form {w : World} {v : Value} {q : List (Value × Pt)} (h : PtI w v q) : ∃ ad cap, v = .slice ad q.length cap ∧ ∀ k (hk : k < q.length), ∃ b off, ad = some ⟨b, off, none⟩ ∧ b < w.heap.size ∧ w.cell? ⟨b, off + k * 4, none⟩ = some (.int .i64 q[k].2.n) ∧ w.cell? ⟨b, off + k * 4 + 1, none⟩ = some (.int .i64 q[k].2.sz) ∧ w.cell? ⟨b, off + k * 4 + 2, none⟩ = some (.string q[k].2.sum) ∧ w.cell? ⟨b, off + k * 4 + 3, none⟩ = some q[k].1 ∧ PcI w q[k].1 q[k].2.ps := by
  obtain ⟨h1, h2⟩ := h
  rcases h1 with ⟨ad, cap, rfl, h0, _⟩ | ⟨b, off, cap, rfl, _, hb, hc⟩
  · exact ⟨ad, cap, by rw [h0], fun k hk => by omega⟩
  · refine ⟨_, cap, rfl, fun k hk => ⟨b, off, rfl, hb, ?_, ?_, ?_, ?_, h2 _ (List.getElem_mem hk)⟩⟩
    · have := hc (k * 4 + 0) _ (tqC_get q k hk 0 (by omega)); exact this
    · have := hc (k * 4 + 1) _ (tqC_get q k hk 1 (by omega)); rw [← Nat.add_assoc] at this; exact this
    · have := hc (k * 4 + 2) _ (tqC_get q k hk 2 (by omega)); rw [← Nat.add_assoc] at this; exact this
    · have := hc (k * 4 + 3) _ (tqC_get q k hk 3 (by omega)); rw [← Nat.add_assoc] at this; exact this
theorem pti_none (w : World) : PtI w (.slice none 0 0) [] := ⟨.inl ⟨none, 0, rfl, rfl, rfl⟩, fun y hy => by cases hy⟩
theorem elT : ElT 22 25 4 56 := ⟨Try.underlying22, ⟨.agg #[.int .i64 0, .int .i64 0, .string ⟨#[]⟩, .slice none 0 0], by kernel_rfl, rfl⟩, by decide⟩
theorem elRT : ElT 29 35 4 56 := ⟨Try.underlying29, ⟨.agg #[.int .i64 0, .int .i64 0, .string ⟨#[]⟩, .slice none 0 0], by kernel_rfl, rfl⟩, by decide⟩
/-- parts in a row that the call owns, with their pieces -/
def OwnT (W : World) (B tv tp : Nat) (v : Value) (q : List (Value × Pt)) : Prop := W.ownsRow B tv 4 v q.length (tqC q) ∧ ∀ y ∈ q, OwnP W B tp y.1 y.2.ps
theorem OwnT.next {W W' : World} {B tv tp : Nat} {v : Value} {q : List (Value × Pt)} (h : OwnT W B tv tp v q) (hb : Below W.heap.size W W') : OwnT W' B tv tp v q := ⟨(hb.keep (fun _ => False)).ownsRow h.1 (fun _ _ h => h), fun y hy => (h.2 y hy).next hb⟩
theorem OwnT.pt {W : World} {B tv tp : Nat} {v : Value} {q : List (Value × Pt)} (h : OwnT W B tv tp v q) : PtI W v q := ⟨RowC.own h.1, fun y hy => (h.2 y hy).pcs⟩
theorem ownT_nil (W : World) (B tv tp : Nat) : OwnT W B tv tp (.slice none 0 0) [] := ⟨⟨rfl, .inl ⟨rfl, rfl⟩⟩, fun y hy => by cases hy⟩
theorem OwnT.app {W W' : World} {B tv tp : Nat} {v v' : Value} {q : List (Value × Pt)} {y : Value × Pt} (h : OwnT W B tv tp v q) (hy : OwnP W B tp y.1 y.2.ps) (hne : tp ≠ tv) (hr : W'.ownsRow B tv 4 v' (q.length + 1) (tqC q ++ ptC y)) (hk : Keep (fun j => v.ownBlock = some j) W W') : OwnT W' B tv tp v' (q ++ [y]) := by
  refine ⟨?_, fun z hz => ?_⟩
  · rw [tqC_app, tqC_one, List.length_append, List.length_singleton]
    exact hr
  · rcases List.mem_append.1 hz with hz | hz
    · exact hk.ownsRow (h.2 z hz) (fun g hg e => rows_apart2 (h.2 z hz) h.1 hne hg e)
    · rw [List.mem_singleton.1 hz]
      exact hk.ownsRow hy (fun g hg e => rows_apart2 hy h.1 hne hg e)
theorem ptC_cell (ad : Option Addr) (n cap : Nat) (x : Pt) : ∀ u ∈ ptC (.slice ad n cap, x), u.oneCell' = true := by
  intro u hu
  simp [ptC] at hu
  rcases hu with rfl | rfl | rfl | rfl <;> rfl
/-- parts whose numbers rise -/
def ptAbove (p : Option Int) (x : Int) : Bool := match p with | none => true | some y => decide (y < x)
def ptF : Option Int → List Pt → Bool
  | _, [] => true
  | p, v :: r => ptOk v && ptAbove p v.n && ptF (some v.n) r
def arePt (l : List Pt) : Bool := ptF none l
def prevT (l : List Pt) (k : Nat) : Option Int := if k = 0 then none else (l[k - 1]?).map (·.n)
theorem prevT_succ (l : List Pt) (k : Nat) (hk : k < l.length) : prevT l (k + 1) = some l[k].n := by simp [prevT, hk]
theorem ptF_at (l : List Pt) (k : Nat) (hk : k < l.length) : ptF (prevT l k) (l.drop k) = (ptOk l[k] && ptAbove (prevT l k) l[k].n && ptF (prevT l (k + 1)) (l.drop (k + 1))) := by
  rw [List.drop_eq_getElem_cons hk, prevT_succ l k hk]; rfl
end Go.Proofs.Ytbiapepalkdkdab
namespace Go.Proofs.Ytbiapepalkdkdab
open Go.RowKit Go.Maps
set_option linter.unusedVariables false
set_option linter.unusedSimpArgs false

theorem pt_bad {q : List (Value × Pt)} {R : Bool} {k : Nat} (hk : k < q.length) (hR : R = ptF (prevT (tqL q) k) ((tqL q).drop k)) (h : ptOk q[k].2 = false ∨ ptAbove (prevT (tqL q) k) q[k].2.n = false) : R = false := by
  rw [hR, ptF_at (tqL q) k (by rw [tqL_len]; exact hk), tqL_get q k hk]
  rcases h with h | h
  · rw [h]; rfl
  · rw [h]; simp
theorem pt_go {q : List (Value × Pt)} {R : Bool} {k : Nat} (hk : k < q.length) (hR : R = ptF (prevT (tqL q) k) ((tqL q).drop k)) (h1 : ptOk q[k].2 = true) (h2 : ptAbove (prevT (tqL q) k) q[k].2.n = true) : R = ptF (prevT (tqL q) (k + 1)) ((tqL q).drop (k + 1)) := by
  rw [hR, ptF_at (tqL q) k (by rw [tqL_len]; exact hk), tqL_get q k hk, h1, h2]; rfl
theorem tprev_at {q : List (Value × Pt)} {m : Nat} (hm : m < q.length) : prevT (tqL q) (m + 1) = some q[m].2.n := by
  rw [prevT_succ (tqL q) m (by rw [tqL_len]; exact hm), tqL_get q m hm]
theorem ptE_cases (x : Pt) : (ptOk x = true ∧ ptE x = 0) ∨ (ptOk x = false ∧ ptE x = 1) := by
  unfold ptE
  cases h : ptOk x
  · exact .inr ⟨rfl, rfl⟩
  · exact .inl ⟨rfl, rfl⟩
set_option maxRecDepth 100000 in
set_option maxHeartbeats 2000000 in
theorem areParts_any (v : Value) (q : List (Value × Pt)) (w : World) (hv : PtI w v q) (hl : q.length ≤ 8796093022208) : Calls Try.prog 29 #[v] w fun e w' => e = .returned (.bool (arePt (tqL q))) ∧ Below w.heap.size w w' := by
  obtain ⟨ad, cap, rfl, hc⟩ := hv.form
  have HL := hid hl
  have HR0 : Hid (arePt (tqL q) = ptF (prevT (tqL q) 0) ((tqL q).drop 0)) := by show _ = _; simp [prevT, arePt]
  have HC := hid hc
  have CK0 := hid (fun pv x W h => tcheck_any pv x W h)
  generalize arePt (tqL q) = R at *
  clear hc hv hl
  go_enter Try.func29, Try.ntmps29
  go_wp2
  go_loopw [7] (fun i wr => ∃ (k : Nat), k ≤ q.length ∧ i = .int .i64 (k : Int) ∧ Hid (Below w.heap.size w wr) ∧ Hid (R = ptF (prevT (tqL q) k) ((tqL q).drop k))) (fun i _ => q.length - (intOf i).toNat)
  case atStart => exact ⟨0, Nat.zero_le _, rfl, Below.refl _ _, HR0⟩
  case round =>
    clear HR0
    obtain ⟨k, hk, rfl, HB, HR⟩ := hrel
    by_cases hlt : k < q.length
    · have hk1 : (k : Int) < (q.length : Int) := by omega
      have hk0 : (0 : Int) ≤ (k : Int) := by omega
      have hwk : wrap64 ((k : Int) + 1) = ((k + 1 : Nat) : Int) := by have := HL.out; rw [IntWalk.wrap64_in _ (by omega)]; omega
      obtain ⟨b, off, rfl, hb, c0, c1, c2, c3, hp⟩ := HC.out k hlt
      have d0 := (HB.out.cell (p := ⟨b, off + k * 4, none⟩) hb).trans c0
      have d1 := (HB.out.cell (p := ⟨b, off + k * 4 + 1, none⟩) hb).trans c1
      have d2 := (HB.out.cell (p := ⟨b, off + k * 4 + 2, none⟩) hb).trans c2
      have d3 := (HB.out.cell (p := ⟨b, off + k * 4 + 3, none⟩) hb).trans c3
      have HBAD := hid (pt_bad hlt HR.out)
      have HGO := hid (pt_go hlt HR.out)
      have HE := hid (ptE_cases q[k].2)
      have HPV : Hid (k = 0 ∧ prevT (tqL q) k = none ∨ ∃ (m : Nat) (pi : Int), k = m + 1 ∧ prevT (tqL q) k = some pi ∧ ∀ W, Below w.heap.size w W → W.cell? ⟨b, off + m * 4, none⟩ = some (.int .i64 pi)) := by
        cases k with
        | zero => exact .inl ⟨rfl, rfl⟩
        | succ m =>
          obtain ⟨b', off', e, hb', c0', _⟩ := HC.out m (by omega)
          injection e with e
          injection e with e1 e2
          subst e1 e2
          exact .inr ⟨m, _, rfl, tprev_at (by omega), fun W hW => (hW.cell (p := ⟨b, off + m * 4, none⟩) hb').trans c0'⟩
      have HX : Hid (∀ W, Bx w wr.heap.size [.int .i64 q[k].2.n, .int .i64 q[k].2.sz, .string q[k].2.sum, q[k].1] 25 W → Calls Try.prog 13 #[.agg #[.int .i64 q[k].2.n, .int .i64 q[k].2.sz, .string q[k].2.sum, q[k].1]] W fun e w' => e = .returned (.int .i64 (ptE q[k].2)) ∧ (w'.cell? ⟨wr.heap.size, 0, none⟩ = some (.int .i64 q[k].2.n) ∧ w'.cell? ⟨wr.heap.size, 1, none⟩ = some (.int .i64 q[k].2.sz) ∧ w'.cell? ⟨wr.heap.size, 2, none⟩ = some (.string q[k].2.sum) ∧ w'.cell? ⟨wr.heap.size, 3, none⟩ = some q[k].1) ∧ Hid (Bx w wr.heap.size [.int .i64 q[k].2.n, .int .i64 q[k].2.sz, .string q[k].2.sum, q[k].1] 25 w')) := fun W hW => (CK0.out q[k].1 q[k].2 W (hp.next hW.b)).mono fun e w' ⟨he, hb⟩ => ⟨he, ⟨(hW.next hb).row.cellAt rfl, (hW.next hb).row.cellAt rfl, (hW.next hb).row.cellAt rfl, (hW.next hb).row.cellAt rfl⟩, hW.next hb⟩
      have BM := hid (Bx.made HB.out [.int .i64 q[k].2.n, .int .i64 q[k].2.sz, .string q[k].2.sum, q[k].1] 25)
      have HLT := hid hlt
      have hkL : (k : Int) < 8796093022208 := by have := HL.out; omega
      have hpf := hp.sl
      clear HC HR c0 c1 c2 c3 hp HL CK0 hb HB
      generalize q[k] = y at *
      obtain ⟨pv, id, sz, sum, ps⟩ := y
      simp only at *
      obtain ⟨ad2, cap2, rfl⟩ := hpf
      generalize ps.length = pn at *
      generalize ptE _ = E at *
      generalize ptOk _ = OK at *
      generalize prevT (tqL q) k = PV at *
      have y0 := BM.out.row.cellAt (o := 0) rfl
      have y1 := BM.out.row.cellAt (o := 1) rfl
      have y2 := BM.out.row.cellAt (o := 2) rfl
      have y3 := BM.out.row.cellAt (o := 3) rfl
      rcases HE.out with ⟨rfl, rfl⟩ | ⟨rfl, rfl⟩
      · rcases HPV.out with ⟨hz, rfl⟩ | ⟨m, pi, hz, rfl, hpi⟩
        · have HG := hid (HGO.out rfl rfl)
          have g1 : decide (0 < (k : Int)) = false := decide_eq_false (by omega)
          have g2 : decide (0 < k) = false := decide_eq_false (by omega)
          clear HBAD HGO HE HPV hk hlt hz
          go_wp2
          refine wp_region_held_drew (S := (fun w' => w'.cell? ⟨wr.heap.size, 0, none⟩ = some (.int .i64 id) ∧ w'.cell? ⟨wr.heap.size, 1, none⟩ = some (.int .i64 sz) ∧ w'.cell? ⟨wr.heap.size, 2, none⟩ = some (.string sum) ∧ w'.cell? ⟨wr.heap.size, 3, none⟩ = some (.slice ad2 pn cap2))) (by kernel_rfl) ⟨y0, y1, y2, y3⟩ (fun hHeld => ?_)
          refine wpAnyH_take (i := 0) (v := ?vv5) rfl (by kernel_rfl) (by kernel_rfl) (by kernel_rfl) (fun _ _ _ h => h) (Or.inl ⟨by rfl, ?hy5⟩) (by assumption) ?rest5
          case hy5 => (intro w hSw; (try dsimp only at hSw); go_simp; first | done | with_reducible rfl)
          try simp only [Act.put, List.getElem_toArray, List.getElem_cons_succ, List.getElem_cons_zero, List.setIfInBounds_toArray, List.set_cons_zero, List.set_cons_succ]
          refine wpAnyH_ready (rs := [1]) (by kernel_rfl) (by simp) ?_
          refine AllReadyH.cons rfl (fun K hK => ?_) AllReadyH.nil
          go_simp
          refine (HX.out _ BM.out.drew).mono ?_
          rintro e w5 ⟨rfl, ZC, B5⟩
          go_wp2_with fail
          refine hK.out _ _ ZC (fun hHeld => ?_)
          clear hK K
          try simp only [Act.put, List.getElem_toArray, List.getElem_cons_succ, List.getElem_cons_zero, List.setIfInBounds_toArray, List.set_cons_zero, List.set_cons_succ]
          refine wpAnyH_take (i := 2) (v := ?vv6) rfl (by kernel_rfl) (by kernel_rfl) (by kernel_rfl) (fun _ _ _ h => h) (Or.inl ⟨by rfl, ?hy6⟩) (by assumption) ?rest6
          case hy6 => (intro w hSw; (try dsimp only at hSw); go_simp; first | done | with_reducible rfl)
          try simp only [Act.put, List.getElem_toArray, List.getElem_cons_succ, List.getElem_cons_zero, List.setIfInBounds_toArray, List.set_cons_zero, List.set_cons_succ]
          refine wpAnyH_take (i := 3) (v := ?vv7) rfl (by kernel_rfl) (by kernel_rfl) (by kernel_rfl) (fun _ _ _ h => h) (Or.inl ⟨by rfl, ?hy7⟩) (by assumption) ?rest7
          case hy7 => (intro w hSw; (try dsimp only at hSw); go_simp; first | done | with_reducible rfl)
          try simp only [Act.put, List.getElem_toArray, List.getElem_cons_succ, List.getElem_cons_zero, List.setIfInBounds_toArray, List.set_cons_zero, List.set_cons_succ]
          refine wpAnyH_take (i := 4) (v := ?vv8) rfl (by kernel_rfl) (by kernel_rfl) (by kernel_rfl) (fun _ _ _ h => h) (Or.inl ⟨by rfl, ?hy8⟩) (by assumption) ?rest8
          case hy8 => (intro w hSw; (try dsimp only at hSw); go_simp; first | done | with_reducible rfl)
          try simp only [Act.put, List.getElem_toArray, List.getElem_cons_succ, List.getElem_cons_zero, List.setIfInBounds_toArray, List.set_cons_zero, List.set_cons_succ]
          refine wpAnyH_take (i := 5) (v := ?vv9) rfl (by kernel_rfl) (by kernel_rfl) (by kernel_rfl) (fun _ _ _ h => h) (Or.inl ⟨by rfl, ?hy9⟩) (by assumption) ?rest9
          case hy9 => (intro w hSw; (try dsimp only at hSw); go_simp; first | done | with_reducible rfl)
          try simp only [Act.put, List.getElem_toArray, List.getElem_cons_succ, List.getElem_cons_zero, List.setIfInBounds_toArray, List.set_cons_zero, List.set_cons_succ]
          refine wpAnyH_take (i := 6) (v := ?vv10) rfl (by kernel_rfl) (by kernel_rfl) (by kernel_rfl) (fun _ _ _ h => h) (Or.inl ⟨by rfl, ?hy10⟩) (by assumption) ?rest10
          case hy10 => (intro w hSw; (try dsimp only at hSw); go_simp; first | done | with_reducible rfl)
          try simp only [Act.put, List.getElem_toArray, List.getElem_cons_succ, List.getElem_cons_zero, List.setIfInBounds_toArray, List.set_cons_zero, List.set_cons_succ]
          refine wpAnyH_take (i := 7) (v := undef) rfl (by kernel_rfl) (by kernel_rfl) (by kernel_rfl) (fun _ _ _ h => h) (Or.inr ⟨by rfl, rfl⟩) (by assumption) ?_
          try simp only [Act.put, List.getElem_toArray, List.getElem_cons_succ, List.getElem_cons_zero, List.setIfInBounds_toArray, List.set_cons_zero, List.set_cons_succ]
          refine wpAnyH_take (i := 8) (v := undef) rfl (by kernel_rfl) (by kernel_rfl) (by kernel_rfl) (fun _ _ _ h => h) (Or.inr ⟨by rfl, rfl⟩) (by assumption) ?_
          try simp only [Act.put, List.getElem_toArray, List.getElem_cons_succ, List.getElem_cons_zero, List.setIfInBounds_toArray, List.set_cons_zero, List.set_cons_succ]
          refine wpAnyH_take (i := 9) (v := undef) rfl (by kernel_rfl) (by kernel_rfl) (by kernel_rfl) (fun _ _ _ h => h) (Or.inr ⟨by rfl, rfl⟩) (by assumption) ?_
          try simp only [Act.put, List.getElem_toArray, List.getElem_cons_succ, List.getElem_cons_zero, List.setIfInBounds_toArray, List.set_cons_zero, List.set_cons_succ]
          refine wpAnyH_take (i := 10) (v := undef) rfl (by kernel_rfl) (by kernel_rfl) (by kernel_rfl) (fun _ _ _ h => h) (Or.inr ⟨by rfl, rfl⟩) (by assumption) ?_
          try simp only [Act.put, List.getElem_toArray, List.getElem_cons_succ, List.getElem_cons_zero, List.setIfInBounds_toArray, List.set_cons_zero, List.set_cons_succ]
          refine wpAnyH_take (i := 11) (v := undef) rfl (by kernel_rfl) (by kernel_rfl) (by kernel_rfl) (fun _ _ _ h => h) (Or.inr ⟨by rfl, rfl⟩) (by assumption) ?_
          try simp only [Act.put, List.getElem_toArray, List.getElem_cons_succ, List.getElem_cons_zero, List.setIfInBounds_toArray, List.set_cons_zero, List.set_cons_succ]
          refine wpAnyH_take (i := 12) (v := undef) rfl (by kernel_rfl) (by kernel_rfl) (by kernel_rfl) (fun _ _ _ h => h) (Or.inr ⟨by rfl, rfl⟩) (by assumption) ?_
          try simp only [Act.put, List.getElem_toArray, List.getElem_cons_succ, List.getElem_cons_zero, List.setIfInBounds_toArray, List.set_cons_zero, List.set_cons_succ]
          refine wpAnyH_take (i := 13) (v := undef) rfl (by kernel_rfl) (by kernel_rfl) (by kernel_rfl) (fun _ _ _ h => h) (Or.inr ⟨by rfl, rfl⟩) (by assumption) ?_
          try simp only [Act.put, List.getElem_toArray, List.getElem_cons_succ, List.getElem_cons_zero, List.setIfInBounds_toArray, List.set_cons_zero, List.set_cons_succ]
          refine wpAnyH_take (i := 14) (v := undef) rfl (by kernel_rfl) (by kernel_rfl) (by kernel_rfl) (fun _ _ _ h => h) (Or.inr ⟨by rfl, rfl⟩) (by assumption) ?_
          try simp only [Act.put, List.getElem_toArray, List.getElem_cons_succ, List.getElem_cons_zero, List.setIfInBounds_toArray, List.set_cons_zero, List.set_cons_succ]
          refine wpAnyH_take (i := 15) (v := undef) rfl (by kernel_rfl) (by kernel_rfl) (by kernel_rfl) (fun _ _ _ h => h) (Or.inr ⟨by rfl, rfl⟩) (by assumption) ?_
          try simp only [Act.put, List.getElem_toArray, List.getElem_cons_succ, List.getElem_cons_zero, List.setIfInBounds_toArray, List.set_cons_zero, List.set_cons_succ]
          refine wpAnyH_take (i := 16) (v := ?vv11) rfl (by kernel_rfl) (by kernel_rfl) (by kernel_rfl) (fun _ _ _ h => h) (Or.inl ⟨by rfl, ?hy11⟩) (by assumption) ?rest11
          case hy11 => (intro w hSw; (try dsimp only at hSw); go_simp; first | done | with_reducible rfl)
          try simp only [Act.put, List.getElem_toArray, List.getElem_cons_succ, List.getElem_cons_zero, List.setIfInBounds_toArray, List.set_cons_zero, List.set_cons_succ]
          refine wpAnyH_take (i := 17) (v := ?vv12) rfl (by kernel_rfl) (by kernel_rfl) (by kernel_rfl) (fun _ _ _ h => h) (Or.inl ⟨by rfl, ?hy12⟩) (by assumption) ?rest12
          case hy12 => (intro w hSw; (try dsimp only at hSw); go_simp; first | done | with_reducible rfl)
          try simp only [Act.put, List.getElem_toArray, List.getElem_cons_succ, List.getElem_cons_zero, List.setIfInBounds_toArray, List.set_cons_zero, List.set_cons_succ]
          refine wpAnyH_done (by kernel_rfl) ?_ _
          clear hHeld ZC
          go_wp2
          exact ⟨⟨k + 1, HLT.out, by first | rw [hwk] | rfl | simp, B5.out.b, HG⟩, by (try rw [hwk]); have := HLT.out; simp [intOf]; omega⟩
        · have g1 : decide (0 < (k : Int)) = true := decide_eq_true (by omega)
          have g2 : decide (0 < k) = true := decide_eq_true (by omega)
          have hw1 : wrap64 ((k : Int) - 1) = (m : Int) := by rw [IntWalk.wrap64_in _ (by omega)]; omega
          have hw2 : IntKind.i64.wrap ((k : Int) - 1) = (m : Int) := by rw [IntKind.wrap_i64]; omega
          have hm0 : (0 : Int) ≤ (m : Int) := by omega
          have hm1 : (m : Int) < (q.length : Int) := by omega
          have HPI := hid hpi
          have yp := HPI.out _ BM.out.b
          have HX2 : Hid (∀ W, Bx w wr.heap.size [.int .i64 id, .int .i64 sz, .string sum, .slice ad2 pn cap2] 25 W → Calls Try.prog 13 #[.agg #[.int .i64 id, .int .i64 sz, .string sum, .slice ad2 pn cap2]] W fun e w' => e = .returned (.int .i64 0) ∧ ((w'.cell? ⟨wr.heap.size, 0, none⟩ = some (.int .i64 id) ∧ w'.cell? ⟨wr.heap.size, 1, none⟩ = some (.int .i64 sz) ∧ w'.cell? ⟨wr.heap.size, 2, none⟩ = some (.string sum) ∧ w'.cell? ⟨wr.heap.size, 3, none⟩ = some (.slice ad2 pn cap2)) ∧ w'.cell? ⟨b, off + m * 4, none⟩ = some (.int .i64 pi)) ∧ Hid (Bx w wr.heap.size [.int .i64 id, .int .i64 sz, .string sum, .slice ad2 pn cap2] 25 w')) := fun W hW => (HX.out W hW).mono fun e w' ⟨he, hz, hb⟩ => ⟨he, ⟨hz, HPI.out _ hb.out.b⟩, hb⟩
          by_cases hge : id ≤ pi
          · have g3 : decide (id ≤ pi) = true := decide_eq_true hge
            have hr := HBAD.out (.inr (show decide (pi < id) = false from decide_eq_false (by omega)))
            subst hr
            clear HBAD HGO HE HPV hk hlt hz hpi HX hge
            go_wp2
            go_region_held3 (fun w' => (w'.cell? ⟨wr.heap.size, 0, none⟩ = some (.int .i64 id) ∧ w'.cell? ⟨wr.heap.size, 1, none⟩ = some (.int .i64 sz) ∧ w'.cell? ⟨wr.heap.size, 2, none⟩ = some (.string sum) ∧ w'.cell? ⟨wr.heap.size, 3, none⟩ = some (.slice ad2 pn cap2)) ∧ w'.cell? ⟨b, off + m * 4, none⟩ = some (.int .i64 pi)) (first | exact ⟨⟨y0, y1, y2, y3⟩, yp⟩ | with_reducible assumption) (first | (go_at_call 13; with_reducible (refine (HX2.out _ ?_).mono ?_); (exact BM.out.drew); rintro e w5 ⟨rfl, ZC, B5⟩))
            clear ZC
            go_wp2
            go_ret
            exact ⟨rfl, B5.out.b⟩
          · have g3 : decide (id ≤ pi) = false := decide_eq_false hge
            have HG := hid (HGO.out rfl (show decide (pi < id) = true from decide_eq_true (by omega)))
            clear HBAD HGO HE HPV hk hlt hz hpi HX hge
            go_wp2
            go_region_held3 (fun w' => (w'.cell? ⟨wr.heap.size, 0, none⟩ = some (.int .i64 id) ∧ w'.cell? ⟨wr.heap.size, 1, none⟩ = some (.int .i64 sz) ∧ w'.cell? ⟨wr.heap.size, 2, none⟩ = some (.string sum) ∧ w'.cell? ⟨wr.heap.size, 3, none⟩ = some (.slice ad2 pn cap2)) ∧ w'.cell? ⟨b, off + m * 4, none⟩ = some (.int .i64 pi)) (first | exact ⟨⟨y0, y1, y2, y3⟩, yp⟩ | with_reducible assumption) (first | (go_at_call 13; with_reducible (refine (HX2.out _ ?_).mono ?_); (exact BM.out.drew); rintro e w5 ⟨rfl, ZC, B5⟩))
            clear ZC
            go_wp2
            exact ⟨⟨k + 1, HLT.out, by first | rw [hwk] | rfl | simp, B5.out.b, HG⟩, by (try rw [hwk]); have := HLT.out; simp [intOf]; omega⟩
      · have hr := HBAD.out (.inl rfl)
        subst hr
        clear HBAD HGO HE HPV hk hlt
        go_wp2
        refine wp_region_held_drew (S := (fun w' => w'.cell? ⟨wr.heap.size, 0, none⟩ = some (.int .i64 id) ∧ w'.cell? ⟨wr.heap.size, 1, none⟩ = some (.int .i64 sz) ∧ w'.cell? ⟨wr.heap.size, 2, none⟩ = some (.string sum) ∧ w'.cell? ⟨wr.heap.size, 3, none⟩ = some (.slice ad2 pn cap2))) (by kernel_rfl) ⟨y0, y1, y2, y3⟩ (fun hHeld => ?_)
        refine wpAnyH_take (i := 0) (v := ?vv1) rfl (by kernel_rfl) (by kernel_rfl) (by kernel_rfl) (fun _ _ _ h => h) (Or.inl ⟨by rfl, ?hy1⟩) (by assumption) ?rest1
        case hy1 => (intro w hSw; (try dsimp only at hSw); go_simp; first | done | with_reducible rfl)
        try simp only [Act.put, List.getElem_toArray, List.getElem_cons_succ, List.getElem_cons_zero, List.setIfInBounds_toArray, List.set_cons_zero, List.set_cons_succ]
        refine wpAnyH_ready (rs := [1]) (by kernel_rfl) (by simp) ?_
        refine AllReadyH.cons rfl (fun K hK => ?_) AllReadyH.nil
        go_simp
        refine (HX.out _ BM.out.drew).mono ?_
        rintro e w5 ⟨rfl, ZC, B5⟩
        go_wp2_with fail
        refine hK.out _ _ ZC (fun hHeld => ?_)
        clear hK K
        try simp only [Act.put, List.getElem_toArray, List.getElem_cons_succ, List.getElem_cons_zero, List.setIfInBounds_toArray, List.set_cons_zero, List.set_cons_succ]
        refine wpAnyH_take (i := 2) (v := ?vv2) rfl (by kernel_rfl) (by kernel_rfl) (by kernel_rfl) (fun _ _ _ h => h) (Or.inl ⟨by rfl, ?hy2⟩) (by assumption) ?rest2
        case hy2 => (intro w hSw; (try dsimp only at hSw); go_simp; first | done | with_reducible rfl)
        try simp only [Act.put, List.getElem_toArray, List.getElem_cons_succ, List.getElem_cons_zero, List.setIfInBounds_toArray, List.set_cons_zero, List.set_cons_succ]
        refine wpAnyH_take (i := 3) (v := ?vv3) rfl (by kernel_rfl) (by kernel_rfl) (by kernel_rfl) (fun _ _ _ h => h) (Or.inl ⟨by rfl, ?hy3⟩) (by assumption) ?rest3
        case hy3 => (intro w hSw; (try dsimp only at hSw); go_simp; first | done | with_reducible rfl)
        try simp only [Act.put, List.getElem_toArray, List.getElem_cons_succ, List.getElem_cons_zero, List.setIfInBounds_toArray, List.set_cons_zero, List.set_cons_succ]
        refine wpAnyH_take (i := 4) (v := undef) rfl (by kernel_rfl) (by kernel_rfl) (by kernel_rfl) (fun _ _ _ h => h) (Or.inr ⟨by rfl, rfl⟩) (by assumption) ?_
        try simp only [Act.put, List.getElem_toArray, List.getElem_cons_succ, List.getElem_cons_zero, List.setIfInBounds_toArray, List.set_cons_zero, List.set_cons_succ]
        refine wpAnyH_take (i := 5) (v := undef) rfl (by kernel_rfl) (by kernel_rfl) (by kernel_rfl) (fun _ _ _ h => h) (Or.inr ⟨by rfl, rfl⟩) (by assumption) ?_
        try simp only [Act.put, List.getElem_toArray, List.getElem_cons_succ, List.getElem_cons_zero, List.setIfInBounds_toArray, List.set_cons_zero, List.set_cons_succ]
        refine wpAnyH_take (i := 6) (v := undef) rfl (by kernel_rfl) (by kernel_rfl) (by kernel_rfl) (fun _ _ _ h => h) (Or.inr ⟨by rfl, rfl⟩) (by assumption) ?_
        try simp only [Act.put, List.getElem_toArray, List.getElem_cons_succ, List.getElem_cons_zero, List.setIfInBounds_toArray, List.set_cons_zero, List.set_cons_succ]
        refine wpAnyH_take (i := 7) (v := undef) rfl (by kernel_rfl) (by kernel_rfl) (by kernel_rfl) (fun _ _ _ h => h) (Or.inr ⟨by rfl, rfl⟩) (by assumption) ?_
        try simp only [Act.put, List.getElem_toArray, List.getElem_cons_succ, List.getElem_cons_zero, List.setIfInBounds_toArray, List.set_cons_zero, List.set_cons_succ]
        refine wpAnyH_take (i := 8) (v := undef) rfl (by kernel_rfl) (by kernel_rfl) (by kernel_rfl) (fun _ _ _ h => h) (Or.inr ⟨by rfl, rfl⟩) (by assumption) ?_
        try simp only [Act.put, List.getElem_toArray, List.getElem_cons_succ, List.getElem_cons_zero, List.setIfInBounds_toArray, List.set_cons_zero, List.set_cons_succ]
        refine wpAnyH_take (i := 9) (v := undef) rfl (by kernel_rfl) (by kernel_rfl) (by kernel_rfl) (fun _ _ _ h => h) (Or.inr ⟨by rfl, rfl⟩) (by assumption) ?_
        try simp only [Act.put, List.getElem_toArray, List.getElem_cons_succ, List.getElem_cons_zero, List.setIfInBounds_toArray, List.set_cons_zero, List.set_cons_succ]
        refine wpAnyH_take (i := 10) (v := undef) rfl (by kernel_rfl) (by kernel_rfl) (by kernel_rfl) (fun _ _ _ h => h) (Or.inr ⟨by rfl, rfl⟩) (by assumption) ?_
        try simp only [Act.put, List.getElem_toArray, List.getElem_cons_succ, List.getElem_cons_zero, List.setIfInBounds_toArray, List.set_cons_zero, List.set_cons_succ]
        refine wpAnyH_take (i := 11) (v := undef) rfl (by kernel_rfl) (by kernel_rfl) (by kernel_rfl) (fun _ _ _ h => h) (Or.inr ⟨by rfl, rfl⟩) (by assumption) ?_
        try simp only [Act.put, List.getElem_toArray, List.getElem_cons_succ, List.getElem_cons_zero, List.setIfInBounds_toArray, List.set_cons_zero, List.set_cons_succ]
        refine wpAnyH_take (i := 12) (v := undef) rfl (by kernel_rfl) (by kernel_rfl) (by kernel_rfl) (fun _ _ _ h => h) (Or.inr ⟨by rfl, rfl⟩) (by assumption) ?_
        try simp only [Act.put, List.getElem_toArray, List.getElem_cons_succ, List.getElem_cons_zero, List.setIfInBounds_toArray, List.set_cons_zero, List.set_cons_succ]
        refine wpAnyH_take (i := 13) (v := undef) rfl (by kernel_rfl) (by kernel_rfl) (by kernel_rfl) (fun _ _ _ h => h) (Or.inr ⟨by rfl, rfl⟩) (by assumption) ?_
        try simp only [Act.put, List.getElem_toArray, List.getElem_cons_succ, List.getElem_cons_zero, List.setIfInBounds_toArray, List.set_cons_zero, List.set_cons_succ]
        refine wpAnyH_take (i := 14) (v := undef) rfl (by kernel_rfl) (by kernel_rfl) (by kernel_rfl) (fun _ _ _ h => h) (Or.inr ⟨by rfl, rfl⟩) (by assumption) ?_
        try simp only [Act.put, List.getElem_toArray, List.getElem_cons_succ, List.getElem_cons_zero, List.setIfInBounds_toArray, List.set_cons_zero, List.set_cons_succ]
        refine wpAnyH_take (i := 15) (v := undef) rfl (by kernel_rfl) (by kernel_rfl) (by kernel_rfl) (fun _ _ _ h => h) (Or.inr ⟨by rfl, rfl⟩) (by assumption) ?_
        try simp only [Act.put, List.getElem_toArray, List.getElem_cons_succ, List.getElem_cons_zero, List.setIfInBounds_toArray, List.set_cons_zero, List.set_cons_succ]
        refine wpAnyH_take (i := 16) (v := undef) rfl (by kernel_rfl) (by kernel_rfl) (by kernel_rfl) (fun _ _ _ h => h) (Or.inr ⟨by rfl, rfl⟩) (by assumption) ?_
        try simp only [Act.put, List.getElem_toArray, List.getElem_cons_succ, List.getElem_cons_zero, List.setIfInBounds_toArray, List.set_cons_zero, List.set_cons_succ]
        refine wpAnyH_take (i := 17) (v := ?vv4) rfl (by kernel_rfl) (by kernel_rfl) (by kernel_rfl) (fun _ _ _ h => h) (Or.inl ⟨by rfl, ?hy4⟩) (by assumption) ?rest4
        case hy4 => (intro w hSw; (try dsimp only at hSw); go_simp; first | done | with_reducible rfl)
        try simp only [Act.put, List.getElem_toArray, List.getElem_cons_succ, List.getElem_cons_zero, List.setIfInBounds_toArray, List.set_cons_zero, List.set_cons_succ]
        refine wpAnyH_done (by kernel_rfl) ?_ _
        clear hHeld ZC
        go_wp2
        go_ret
        exact ⟨rfl, B5.out.b⟩
    · have hke : k = q.length := by omega
      have hd : decide ((k : Int) < (q.length : Int)) = false := decide_eq_false (by omega)
      have hd2 : decide (k < q.length) = false := decide_eq_false hlt
      have HS : Hid (R = true) := by
        show _ = _
        rw [HR.out, List.drop_eq_nil_of_le (by rw [tqL_len]; omega)]; rfl
      have hr := HS.out
      subst hr
      clear HC HR HS HL CK0 hke hlt hk
      go_wp2
      go_ret
      exact ⟨rfl, HB.out⟩
end Go.Proofs.Ytbiapepalkdkdab
namespace Go.Proofs.Ytbiapepalkdkdab
open Go.RowKit Go.Maps
set_option linter.unusedVariables false
set_option linter.unusedSimpArgs false

/-- a box and a result's cell -/
structure Tb (w : World) (cs zs : List Value) (t1 t2 : TypeId) (W : World) : Prop where
  row : RowIs W w.heap.size cs t1
  res : RowIs W (w.heap.size + 1) zs t2
  b : Below w.heap.size w W
theorem Tb.next {w W W' : World} {cs zs : List Value} {t1 t2 : TypeId} (h : Tb w cs zs t1 t2 W) (hb : Below W.heap.size W W') : Tb w cs zs t1 t2 W' :=
  ⟨h.row.keep (hb.keep (fun _ => False)) (fun h => h), h.res.keep (hb.keep (fun _ => False)) (fun h => h), below_on h.b hb⟩
theorem Tb.drew {w W : World} {cs zs : List Value} {t1 t2 : TypeId} (h : Tb w cs zs t1 t2 W) : Tb w cs zs t1 t2 W.drew := ⟨h.row, h.res, h.b.drew⟩
theorem Tb.al {w W : World} {cs zs : List Value} {t1 t2 : TypeId} (h : Tb w cs zs t1 t2 W) (o : Obj) : Tb w cs zs t1 t2 (W.alloc o) := h.next ((Below.refl _ _).alloc (Nat.le_refl _) o)
theorem Tb.made (w : World) (cs zs : List Value) (t1 t2 : TypeId) : Tb w cs zs t1 t2 ((w.alloc (.cells cs.toArray t1)).alloc (.cells zs.toArray t2)) := by
  have hsz : (w.alloc (.cells cs.toArray t1)).heap.size = w.heap.size + 1 := by simp
  refine ⟨row_old (srow w cs t1) _, ?_, below_al (below_al (Below.refl _ _) _) _⟩
  rw [← hsz]
  exact srow _ zs t2
theorem five {W : World} {g : Nat} {v0 v1 v2 v3 v4 x0 x1 x2 x3 x4 : Value} {t : TypeId} (h : RowIs W g [v0, v1, v2, v3, v4] t) : RowIs (((((W.setCell ⟨g, 0, none⟩ x0).setCell ⟨g, 1, none⟩ x1).setCell ⟨g, 2, none⟩ x2).setCell ⟨g, 3, none⟩ x3).setCell ⟨g, 4, none⟩ x4) g [x0, x1, x2, x3, x4] t ∧ Keep (· = g) W (((((W.setCell ⟨g, 0, none⟩ x0).setCell ⟨g, 1, none⟩ x1).setCell ⟨g, 2, none⟩ x2).setCell ⟨g, 3, none⟩ x3).setCell ⟨g, 4, none⟩ x4) :=
  ⟨((((h.set 0 x0).set 1 x1).set 2 x2).set 3 x3).set 4 x4, ((((keep_setCell _ _ _ _).trans (keep_setCell _ _ _ _)).trans (keep_setCell _ _ _ _)).trans (keep_setCell _ _ _ _)).trans (keep_setCell _ _ _ _)⟩
/-- the result's cell set -/
theorem Tb.done {w W : World} {cs : List Value} {t1 t2 : TypeId} {z0 z1 z2 z3 z4 : Value} (h : Tb w cs [z0, z1, z2, z3, z4] t1 t2 W) (x0 x1 x2 x3 x4 : Value) : RowIs (((((W.setCell ⟨w.heap.size + 1, 0, none⟩ x0).setCell ⟨w.heap.size + 1, 1, none⟩ x1).setCell ⟨w.heap.size + 1, 2, none⟩ x2).setCell ⟨w.heap.size + 1, 3, none⟩ x3).setCell ⟨w.heap.size + 1, 4, none⟩ x4) (w.heap.size + 1) [x0, x1, x2, x3, x4] t2 ∧ Below w.heap.size w (((((W.setCell ⟨w.heap.size + 1, 0, none⟩ x0).setCell ⟨w.heap.size + 1, 1, none⟩ x1).setCell ⟨w.heap.size + 1, 2, none⟩ x2).setCell ⟨w.heap.size + 1, 3, none⟩ x3).setCell ⟨w.heap.size + 1, 4, none⟩ x4) ∧ Keep (· = w.heap.size + 1) W (((((W.setCell ⟨w.heap.size + 1, 0, none⟩ x0).setCell ⟨w.heap.size + 1, 1, none⟩ x1).setCell ⟨w.heap.size + 1, 2, none⟩ x2).setCell ⟨w.heap.size + 1, 3, none⟩ x3).setCell ⟨w.heap.size + 1, 4, none⟩ x4) := by
  have f := five h.res (x0 := x0) (x1 := x1) (x2 := x2) (x3 := x3) (x4 := x4)
  exact ⟨f.1, h.b.trans (keep_below f.2 (fun k hk e => by omega) h.b.size), f.2⟩
/-- the box's five cells -/
theorem Tb.five {w W : World} {zs : List Value} {t1 t2 : TypeId} {x0 x1 x2 x3 x4 : Value} (h : Tb w [x0, x1, x2, x3, x4] zs t1 t2 W) : W.cell? ⟨w.heap.size, 0, none⟩ = some x0 ∧ W.cell? ⟨w.heap.size, 1, none⟩ = some x1 ∧ W.cell? ⟨w.heap.size, 2, none⟩ = some x2 ∧ W.cell? ⟨w.heap.size, 3, none⟩ = some x3 ∧ W.cell? ⟨w.heap.size, 4, none⟩ = some x4 :=
  ⟨h.row.cellAt rfl, h.row.cellAt rfl, h.row.cellAt rfl, h.row.cellAt rfl, h.row.cellAt rfl⟩
/-- the result's five cells may be set -/
theorem Tb.may {w W : World} {cs : List Value} {t1 t2 : TypeId} {z0 z1 z2 z3 z4 : Value} (h : Tb w cs [z0, z1, z2, z3, z4] t1 t2 W) : (W.cell? ⟨w.heap.size + 1, 0, none⟩ = some z0 ∧ W.cell? ⟨w.heap.size + 1, 1, none⟩ = some z1 ∧ W.cell? ⟨w.heap.size + 1, 2, none⟩ = some z2 ∧ W.cell? ⟨w.heap.size + 1, 3, none⟩ = some z3 ∧ W.cell? ⟨w.heap.size + 1, 4, none⟩ = some z4) ∧ (W.frozen? ⟨w.heap.size + 1, 0, none⟩ = false ∧ W.frozen? ⟨w.heap.size + 1, 1, none⟩ = false ∧ W.frozen? ⟨w.heap.size + 1, 2, none⟩ = false ∧ W.frozen? ⟨w.heap.size + 1, 3, none⟩ = false ∧ W.frozen? ⟨w.heap.size + 1, 4, none⟩ = false) :=
  ⟨⟨h.res.cellAt rfl, h.res.cellAt rfl, h.res.cellAt rfl, h.res.cellAt rfl, h.res.cellAt rfl⟩, h.res.frozen, h.res.frozen, h.res.frozen, h.res.frozen, h.res.frozen⟩
/-- behind the store -/
theorem Tb.set {w W : World} {cs : List Value} {t1 t2 : TypeId} {z0 z1 z2 z3 z4 : Value} (h : Tb w cs [z0, z1, z2, z3, z4] t1 t2 W) (x0 x1 x2 x3 x4 : Value) : Tb w cs [x0, x1, x2, x3, x4] t1 t2 (((((W.setCell ⟨w.heap.size + 1, 0, none⟩ x0).setCell ⟨w.heap.size + 1, 1, none⟩ x1).setCell ⟨w.heap.size + 1, 2, none⟩ x2).setCell ⟨w.heap.size + 1, 3, none⟩ x3).setCell ⟨w.heap.size + 1, 4, none⟩ x4) := by
  have d := h.done x0 x1 x2 x3 x4
  exact ⟨h.row.keep d.2.2 (by omega), d.1, d.2.1⟩
set_option maxRecDepth 100000 in
set_option maxHeartbeats 2000000 in
theorem lref_any (pv : Value) (x : Vn) (w : World) (hp : PcI w pv x.ps) (hl : x.ps.length * 24 ≤ 140737488355328) : Calls Try.prog 23 #[vnV (pv, x)] w fun e w' => ∃ ad cap, e = .returned (vnV (.slice ad x.ps.length cap, x)) ∧ OwnP w' w.heap.size 88 (.slice ad x.ps.length cap) x.ps ∧ Below w.heap.size w w' := by
  obtain ⟨ad, cap, rfl⟩ := hp.sl
  have LP : Hid (∀ W, Tb w [.int .i64 x.id, .bool x.ma, .int .i64 x.sz, .string x.sum, .slice ad x.ps.length cap] [.int .i64 0, .bool false, .int .i64 0, .string ⟨#[]⟩, .slice none 0 0] 47 51 W → Calls Try.prog 34 #[.slice ad x.ps.length cap] W fun e w' => ∃ ad' cap', e = .returned (.slice ad' x.ps.length cap') ∧ (w'.cell? ⟨w.heap.size, 0, none⟩ = some (.int .i64 x.id) ∧ w'.cell? ⟨w.heap.size, 1, none⟩ = some (.bool x.ma) ∧ w'.cell? ⟨w.heap.size, 2, none⟩ = some (.int .i64 x.sz) ∧ w'.cell? ⟨w.heap.size, 3, none⟩ = some (.string x.sum) ∧ w'.cell? ⟨w.heap.size, 4, none⟩ = some (.slice ad x.ps.length cap)) ∧ Hid (OwnP w' (w.heap.size + 2) 88 (.slice ad' x.ps.length cap') x.ps) ∧ Hid (Tb w [.int .i64 x.id, .bool x.ma, .int .i64 x.sz, .string x.sum, .slice ad x.ps.length cap] [.int .i64 0, .bool false, .int .i64 0, .string ⟨#[]⟩, .slice none 0 0] 47 51 w')) := fun W hW => (lpiece_any _ x.ps W (hp.next hW.b) hl).mono fun e w' ⟨ad', cap', he, ho, hb⟩ => by
    have hn := hW.next hb
    exact ⟨ad', cap', he, ⟨hn.row.cellAt rfl, hn.row.cellAt rfl, hn.row.cellAt rfl, hn.row.cellAt rfl, hn.row.cellAt rfl⟩, ownsRow_base ho (by have := hW.res.lt; omega), hn⟩
  have TM := hid (Tb.made w [.int .i64 x.id, .bool x.ma, .int .i64 x.sz, .string x.sum, .slice ad x.ps.length cap] [.int .i64 0, .bool false, .int .i64 0, .string ⟨#[]⟩, .slice none 0 0] 47 51)
  clear hp hl
  unfold vnV
  obtain ⟨id, ma, sz, sum, ps⟩ := x
  simp only at *
  generalize hpn : ps.length = pn at *
  clear hpn
  have YD := hid TM.out.drew.five
  have KS : Hid (∀ W v', OwnP W (w.heap.size + 2) 88 v' ps → Tb w [.int .i64 id, .bool ma, .int .i64 sz, .string sum, .slice ad pn cap] [.int .i64 0, .bool false, .int .i64 0, .string ⟨#[]⟩, .slice none 0 0] 47 51 W → Hid (Tb w [.int .i64 id, .bool ma, .int .i64 sz, .string sum, .slice ad pn cap] [.int .i64 id, .bool ma, .int .i64 sz, .string sum, v'] 47 51 (((((W.setCell ⟨w.heap.size + 1, 0, none⟩ (.int .i64 id)).setCell ⟨w.heap.size + 1, 1, none⟩ (.bool ma)).setCell ⟨w.heap.size + 1, 2, none⟩ (.int .i64 sz)).setCell ⟨w.heap.size + 1, 3, none⟩ (.string sum)).setCell ⟨w.heap.size + 1, 4, none⟩ v')) ∧ Hid (OwnP (((((W.setCell ⟨w.heap.size + 1, 0, none⟩ (.int .i64 id)).setCell ⟨w.heap.size + 1, 1, none⟩ (.bool ma)).setCell ⟨w.heap.size + 1, 2, none⟩ (.int .i64 sz)).setCell ⟨w.heap.size + 1, 3, none⟩ (.string sum)).setCell ⟨w.heap.size + 1, 4, none⟩ v') w.heap.size 88 v' ps)) := fun W v' ho h => ⟨h.set _ _ _ _ _, ownsRow_base ((h.done _ _ _ _ _).2.2.ownsRow ho (fun g hg e => by have := ownsRow_ge ho hg; omega)) (by omega)⟩
  go_enter Try.func23, Try.ntmps23
  go_wp2
  go_region_held3 (fun w' => w'.cell? ⟨w.heap.size, 0, none⟩ = some (.int .i64 id) ∧ w'.cell? ⟨w.heap.size, 1, none⟩ = some (.bool ma) ∧ w'.cell? ⟨w.heap.size, 2, none⟩ = some (.int .i64 sz) ∧ w'.cell? ⟨w.heap.size, 3, none⟩ = some (.string sum) ∧ w'.cell? ⟨w.heap.size, 4, none⟩ = some (.slice ad pn cap)) (first | with_reducible exact YD.out | with_reducible assumption | with_reducible exact T6.out.five) (first | (go_at_call 34; with_reducible (refine (LP.out _ ?_).mono ?_); (exact TM.out.drew); rintro e w5 ⟨ad', cap', rfl, ZC, OP, T5⟩; obtain ⟨⟨r0, r1, r2, r3, r4⟩, q0, q1, q2, q3, q4⟩ := T5.out.may; obtain ⟨T6, O6⟩ := KS.out w5 (.slice ad' pn cap') OP.out T5.out))
  clear ZC r0 r1 r2 r3 r4 q0 q1 q2 q3 q4 KS YD OP T5 LP TM
  go_wp2
  refine bodyPost_ret (v := .agg #[.int .i64 id, .bool ma, .int .i64 sz, .string sum, .slice ad' pn cap']) (results_cell_row (p := 2) rfl _ _ (w.heap.size + 1) 51 #[.int .i64 id, .bool ma, .int .i64 sz, .string sum, .slice ad' pn cap'] (0, 0) _ rfl T6.out.res Try.underlying51 rfl (by kernel_rfl)) rfl ⟨ad', cap', rfl, O6.out, T6.out.b⟩
/-- a cell of the box set -/
theorem Tb.put {w W : World} {cs zs : List Value} {t1 t2 : TypeId} (h : Tb w cs zs t1 t2 W) (i : Nat) (x : Value) : Tb w (cs.set i x) zs t1 t2 (W.setCell ⟨w.heap.size, i, none⟩ x) := by
  have kS := keep_setCell W w.heap.size i x
  exact ⟨h.row.set i x, h.res.keep kS (by omega), h.b.trans (keep_below kS (fun k hk e => by omega) h.b.size)⟩
end Go.Proofs.Ytbiapepalkdkdab
namespace Go.Proofs.Ytbiapepalkdkdab
open Go.RowKit Go.Maps
set_option linter.unusedVariables false
set_option linter.unusedSimpArgs false

set_option maxRecDepth 100000 in
set_option maxHeartbeats 2000000 in
theorem tapart_any (v : Value) (q : List (Value × Pt)) (w : World) (hv : PtI w v q) (hl : q.length * 56 ≤ 140737488355328) (hs : ∀ y ∈ q, y.2.ps.length ≤ 1048576 ∧ (∀ p ∈ y.2.ps, p.id.size ≤ 1048576) ∧ y.2.sum.size ≤ 1048576) : Calls Try.prog 31 #[v] w fun e w' => ∃ ad cap q', e = .returned (.slice ad q.length cap) ∧ tqL q' = tqL q ∧ OwnT w' w.heap.size 25 69 (.slice ad q.length cap) q' ∧ Below w.heap.size w w' := by
  obtain ⟨ad, cap, rfl, hc⟩ := hv.form
  have HC := hid hc
  have HL := hid hl
  have HCL : Hid (∀ (k : Nat) (hk : k < q.length) (W : World), Calls Try.prog 71 #[.string q[k].2.sum] W fun e w' => e = .returned (.string q[k].2.sum) ∧ Below W.heap.size W w') := fun k hk W => clone_any _ W (Nat.le_trans (hs _ (List.getElem_mem hk)).2.2 (by omega))
  have HAP : Hid (∀ (k : Nat) (hk : k < q.length) (W : World), Below w.heap.size w W → Calls Try.prog 72 #[q[k].1] W fun e w' => ∃ ad cap, e = .returned (.slice ad q[k].2.ps.length cap) ∧ OwnP w' W.heap.size 69 (.slice ad q[k].2.ps.length cap) q[k].2.ps ∧ Below W.heap.size W w') := fun k hk W hW => by
    obtain ⟨b, off, _, _, _, _, _, _, hp⟩ := hc k hk
    have h := hs _ (List.getElem_mem hk)
    exact papart_any _ _ W (hp.next hW) h.1 h.2.1
  have HTK : Hid (∀ (k : Nat) (hk : k < q.length), (tqL q).take (k + 1) = (tqL q).take k ++ [q[k].2]) := fun k hk => by
    rw [List.take_succ_eq_append_getElem (by rw [tqL_len]; exact hk), tqL_get q k hk]
  have HZ : Hid ((tqL q).take q.length = tqL q) := by show _ = _; rw [← tqL_len, List.take_length]
  clear hc hv hl hs
  go_enter Try.func31, Try.ntmps31
  go_wp2
  go_loopw [3, 8] (fun o i wr => ∃ (k : Nat) (ad1 : Option Addr) (cp1 : Nat) (q1 : List (Value × Pt)), k ≤ q.length ∧ o = .slice ad1 k cp1 ∧ i = .int .i64 (k : Int) ∧ Hid (q1.length = k ∧ tqL q1 = (tqL q).take k ∧ OwnT wr w.heap.size 25 69 (.slice ad1 k cp1) q1) ∧ Hid (Below w.heap.size w wr)) (fun _ i _ => q.length - (intOf i).toNat)
  case atStart => exact ⟨0, none, 0, [], Nat.zero_le _, rfl, rfl, ⟨rfl, rfl, ownT_nil _ _ _ _⟩, Below.refl _ _⟩
  case round =>
    obtain ⟨k, ad1, cp1, q1, hk, rfl, rfl, HR, HB⟩ := hrel
    by_cases hlt : k < q.length
    · have hk1 : (k : Int) < (q.length : Int) := by omega
      have hk0 : (0 : Int) ≤ (k : Int) := by omega
      obtain ⟨b, off, rfl, hb, c0, c1, c2, c3, hp⟩ := HC.out k hlt
      have d0 := (HB.out.cell (p := ⟨b, off + k * 4, none⟩) hb).trans c0
      have d1 := (HB.out.cell (p := ⟨b, off + k * 4 + 1, none⟩) hb).trans c1
      have d2 := (HB.out.cell (p := ⟨b, off + k * 4 + 2, none⟩) hb).trans c2
      have d3 := (HB.out.cell (p := ⟨b, off + k * 4 + 3, none⟩) hb).trans c3
      have hwk : wrap64 ((k : Int) + 1) = ((k + 1 : Nat) : Int) := by have := HL.out; rw [IntWalk.wrap64_in _ (by omega)]; omega
      have HB1 : Hid (k + 1 ≤ 4611686018427387904) := by have := HL.out; show _ ≤ _; omega
      have HB2 : Hid ((k + 1) * 56 ≤ 140737488355328) := by have := HL.out; show _ ≤ _; omega
      have HLT := hid hlt
      have HT := hid (HTK.out k hlt)
      have CL := hid (HCL.out k hlt)
      have AP := hid (HAP.out k hlt)
      have hpf := hp.sl
      clear HC c0 c1 c2 c3 hp HL hb HCL HAP HTK HZ
      generalize q[k] = y at *
      obtain ⟨pv, n, sz, sum, ps⟩ := y
      simp only at *
      obtain ⟨ad2, cap2, rfl⟩ := hpf
      generalize hpn : ps.length = pn at *
      clear hlt hk
      have BM := hid (Bx.made (Below.refl wr.heap.size wr) [.int .i64 n, .int .i64 sz, .string sum, .slice ad2 pn cap2] 25)
      have y2 := BM.out.row.cellAt (o := 2) rfl
      go_wp2_with fail
      refine (CL.out _).mono ?_
      rintro e w1 ⟨rfl, b1⟩
      have B1 := hid (BM.out.next b1)
      clear CL b1 BM y2 d0 d1 d2 d3
      have y2 := B1.out.row.cellAt (o := 2) rfl
      have f2 := B1.out.row.frozen (o := 2)
      have B2 : Hid (Bx wr wr.heap.size [.int .i64 n, .int .i64 sz, .string sum, .slice ad2 pn cap2] 25 (w1.setCell ⟨wr.heap.size, 2, none⟩ (.string sum))) := (B1.out.put1 (Nat.le_refl _) 2 (.string sum)).1
      have y3 := B2.out.row.cellAt (o := 3) rfl
      have A2 := hid (AP.out _ (below_on HB.out B2.out.b))
      go_wp2_with fail
      refine A2.out.mono ?_
      rintro e w3 ⟨ad3, cap3, rfl, o3, b3⟩
      have B3 := hid (B2.out.next b3)
      have O3 : Hid (OwnP w3 (wr.heap.size + 1) 69 (.slice ad3 pn cap3) ps) := ownsRow_base (by unfold OwnP at o3; exact o3) (by have := B2.out.row.lt; exact this)
      clear o3 b3 B1 B2 AP A2 y2 f2 y3
      have y3 := B3.out.row.cellAt (o := 3) rfl
      have f3 := B3.out.row.frozen (o := 3)
      have B4 : Hid (Bx wr wr.heap.size [.int .i64 n, .int .i64 sz, .string sum, .slice ad3 pn cap3] 25 (w3.setCell ⟨wr.heap.size, 3, none⟩ (.slice ad3 pn cap3)) ∧ Keep (· = wr.heap.size) w3 (w3.setCell ⟨wr.heap.size, 3, none⟩ (.slice ad3 pn cap3))) := B3.out.put1 (Nat.le_refl _) 3 (.slice ad3 pn cap3)
      have z0 := B4.out.1.row.cellAt (o := 0) rfl
      have z1 := B4.out.1.row.cellAt (o := 1) rfl
      have z2 := B4.out.1.row.cellAt (o := 2) rfl
      have z3 := B4.out.1.row.cellAt (o := 3) rfl
      have hz3 : (w3.setCell ⟨wr.heap.size, 3, none⟩ (.slice ad3 pn cap3)).heap.size = w3.heap.size := by simp [World.setCell]
      have O5 : Hid (OwnP ((w3.setCell ⟨wr.heap.size, 3, none⟩ (.slice ad3 pn cap3)).alloc (.cells #[.int .i64 n, .int .i64 sz, .string sum, .slice ad3 pn cap3] 25)) w.heap.size 69 (.slice ad3 pn cap3) ps) := by
        have o4 : OwnP (w3.setCell ⟨wr.heap.size, 3, none⟩ (.slice ad3 pn cap3)) (wr.heap.size + 1) 69 (.slice ad3 pn cap3) ps := B4.out.2.ownsRow O3.out (fun g hg e => by have := ownsRow_ge O3.out hg; omega)
        exact ownsRow_base (OwnP.next o4 ((Below.refl _ _).alloc (Nat.le_refl _) _)) (by have := HB.out.size; omega)
      have BW : Hid (Below wr.heap.size wr ((w3.setCell ⟨wr.heap.size, 3, none⟩ (.slice ad3 pn cap3)).alloc (.cells #[.int .i64 n, .int .i64 sz, .string sum, .slice ad3 pn cap3] 25))) := below_al B4.out.1.b _
      have R5 := hid (HR.out.2.2.next BW.out)
      have HGA : Hid (((w3.setCell ⟨wr.heap.size, 3, none⟩ (.slice ad3 pn cap3)).alloc (.cells #[.int .i64 n, .int .i64 sz, .string sum, .slice ad3 pn cap3] 25)).ownsRow w.heap.size 25 4 (.slice ad1 k cp1) k (tqC q1)) := by have := R5.out.1; rw [HR.out.1] at this; exact this
      have HGX : Hid (GSrc ((w3.setCell ⟨wr.heap.size, 3, none⟩ (.slice ad3 pn cap3)).alloc (.cells #[.int .i64 n, .int .i64 sz, .string sum, .slice ad3 pn cap3] 25)) (.slice (some ⟨w3.heap.size, 0, none⟩) 1 1) 1 (ptC (.slice ad3 pn cap3, ⟨n, sz, sum, ps⟩))) := by
        have := srow (w3.setCell ⟨wr.heap.size, 3, none⟩ (.slice ad3 pn cap3)) [.int .i64 n, .int .i64 sz, .string sum, .slice ad3 pn cap3] 25
        rw [hz3] at this
        exact gsrc_block this
      have HSZ : Hid (w.heap.size ≤ ((w3.setCell ⟨wr.heap.size, 3, none⟩ (.slice ad3 pn cap3)).alloc (.cells #[.int .i64 n, .int .i64 sz, .string sum, .slice ad3 pn cap3] 25)).heap.size) := Nat.le_trans HB.out.size BW.out.size
      have HO1 : Hid (∀ u ∈ ptC (.slice ad3 pn cap3, ⟨n, sz, sum, ps⟩), u.oneCell' = true) := ptC_cell _ _ _ _
      have HX2 : Hid ((ptC (.slice ad3 pn cap3, ⟨n, sz, sum, ps⟩)).length = 1 * 4) := rfl
      have FIN : Hid (∀ ad' cap' w', w'.ownsRow w.heap.size 25 4 (.slice ad' (k + 1) cap') (k + 1) (tqC q1 ++ ptC (.slice ad3 pn cap3, ⟨n, sz, sum, ps⟩)) → Keep (fun j => (Value.slice ad1 k cp1).ownBlock = some j) ((w3.setCell ⟨wr.heap.size, 3, none⟩ (.slice ad3 pn cap3)).alloc (.cells #[.int .i64 n, .int .i64 sz, .string sum, .slice ad3 pn cap3] 25)) w' → Hid ((q1 ++ [(Value.slice ad3 pn cap3, (⟨n, sz, sum, ps⟩ : Pt))]).length = k + 1 ∧ tqL (q1 ++ [(Value.slice ad3 pn cap3, (⟨n, sz, sum, ps⟩ : Pt))]) = (tqL q).take (k + 1) ∧ OwnT w' w.heap.size 25 69 (.slice ad' (k + 1) cap') (q1 ++ [(Value.slice ad3 pn cap3, (⟨n, sz, sum, ps⟩ : Pt))])) ∧ Hid (Below w.heap.size w w')) := fun ad' cap' w' hr hk' => by
        refine ⟨⟨by rw [List.length_append, HR.out.1]; rfl, by rw [tqL_app, HR.out.2.1, HT.out]; rfl, R5.out.app O5.out (by decide) (by rw [HR.out.1]; exact hr) hk'⟩, (below_on HB.out BW.out).trans (keep_below hk' (fun j hj e => by have := ownsRow_ge HGA.out e; omega) HSZ.out)⟩
      clear hz3 B4 O3 O5 BW R5 HT HR HB
      generalize ptC (.slice ad3 pn cap3, ⟨n, sz, sum, ps⟩) = XS at *
      generalize tqC q1 = PA at *
      go_wp2_with (at_builtin; refine wpl_gappL rfl _ _ elT rfl w.heap.size (.slice ad1 k cp1) (.slice (some ⟨w3.heap.size, 0, none⟩) 1 1) PA XS k 1 (k + 1) rfl rfl rfl HGA.out HSZ.out HGX.out HX2.out HO1.out HB1.out HB2.out ?_; intro ad' cap' w' hr' hk')
      obtain ⟨F1, F2⟩ := FIN.out _ _ _ hr' hk'
      clear hr' hk' FIN HGA HGX HSZ
      go_wp2
      exact ⟨⟨k + 1, _, _, _, HLT.out, rfl, by first | rw [hwk] | rfl | simp, F1, F2⟩, by (try rw [hwk]); have := HLT.out; simp [intOf]; omega⟩
    · have hke : k = q.length := by omega
      have hd : decide ((k : Int) < (q.length : Int)) = false := decide_eq_false (by omega)
      have hd2 : decide (k < q.length) = false := decide_eq_false hlt
      have HF : Hid (tqL q1 = tqL q ∧ OwnT wr w.heap.size 25 69 (.slice ad1 q.length cp1) q1) := by
        obtain ⟨_, h2, h3⟩ := HR.out
        rw [hke, HZ.out] at h2
        rw [hke] at h3
        exact ⟨h2, h3⟩
      have HKE := hid hke
      clear HC HTK HZ HR HL hke hlt hk HCL HAP
      go_wp2
      go_ret
      exact ⟨ad1, cp1, q1, by rw [HKE.out]; rfl, HF.out.1, HF.out.2, HB.out⟩
end Go.Proofs.Ytbiapepalkdkdab
namespace Go.Proofs.Ytbiapepalkdkdab
open Go.RowKit Go.Maps
set_option linter.unusedVariables false
set_option linter.unusedSimpArgs false

set_option maxRecDepth 100000 in
set_option maxHeartbeats 2000000 in
theorem rtmay_any (v : Value) (q : List (Value × Pt)) (w : World) (hv : PtI w v q) (hl : q.length ≤ 8796093022208) (hs : ∀ y ∈ q, y.2.sum.size ≤ 140737488355328 ∧ y.2.ps.length ≤ 8796093022208 ∧ ∀ p ∈ y.2.ps, p.id.size ≤ 140737488355328) : Calls Try.prog 33 #[v] w fun e w' => e = .returned (.bool (arePt (tqL q))) ∧ Below w.heap.size w w' := by
  obtain ⟨ad, cap, rfl, hc⟩ := hv.form
  have HL := hid hl
  have HC := hid hc
  have HRC : Hid (arePt (tqL q) = ptF none (tqL q)) := rfl
  have HR0 : Hid (ptF none (tqL q) = ptF (prevT (tqL q) 0) ((tqL q).drop 0)) := by show _ = _; simp [prevT]
  have CK0 : Hid (∀ (k : Nat) (hk : k < q.length) (W : World), PcI W q[k].1 q[k].2.ps → Calls Try.prog 14 #[ptV q[k]] W fun e w' => e = .returned (.int .i64 (ptE q[k].2)) ∧ Below W.heap.size W w') := fun k hk W hp => by
    obtain ⟨h1, h2, h3⟩ := hs _ (List.getElem_mem hk)
    exact rtcheck_any q[k].1 q[k].2 W hp h2 h3 h1
  generalize arePt (tqL q) = RR at *
  generalize ptF none (tqL q) = R at *
  clear hc hv hl hs
  go_enter Try.func33, Try.ntmps33
  go_wp2
  go_loopw [3] (fun i wr => ∃ (k : Nat), k ≤ q.length ∧ i = .int .i64 (k : Int) ∧ Hid (Below w.heap.size w wr) ∧ Hid (R = ptF (prevT (tqL q) k) ((tqL q).drop k))) (fun i _ => q.length - (intOf i).toNat)
  case atStart => exact ⟨0, Nat.zero_le _, rfl, Below.refl _ _, HR0⟩
  case round =>
    clear HR0
    obtain ⟨k, hk, rfl, HB, HR⟩ := hrel
    by_cases hlt : k < q.length
    · have hk1 : (k : Int) < (q.length : Int) := by omega
      have hk0 : (0 : Int) ≤ (k : Int) := by omega
      have hwk : wrap64 ((k : Int) + 1) = ((k + 1 : Nat) : Int) := by have := HL.out; rw [IntWalk.wrap64_in _ (by omega)]; omega
      obtain ⟨b, off, rfl, hb, c0, c1, c2, c3, hp⟩ := HC.out k hlt
      have HBAD := hid (pt_bad hlt HR.out)
      have HGO := hid (pt_go hlt HR.out)
      have HE := hid (ptE_cases q[k].2)
      have HPV : Hid (k = 0 ∧ prevT (tqL q) k = none ∨ ∃ (m : Nat) (pi : Int), k = m + 1 ∧ prevT (tqL q) k = some pi ∧ ∀ W, Below w.heap.size w W → W.cell? ⟨b, off + m * 4, none⟩ = some (.int .i64 pi)) := by
        cases k with
        | zero => exact .inl ⟨rfl, rfl⟩
        | succ m =>
          obtain ⟨b', off', e, hb', c0', _⟩ := HC.out m (by omega)
          injection e with e
          injection e with e1 e2
          subst e1 e2
          exact .inr ⟨m, _, rfl, tprev_at (by omega), fun W hW => (hW.cell (p := ⟨b, off + m * 4, none⟩) hb').trans c0'⟩
      have HCS : Hid (∀ w', Below w.heap.size w w' → (w'.cell? ⟨b, off + k * 4, none⟩ = some (.int .i64 q[k].2.n) ∧ w'.cell? ⟨b, off + k * 4 + 1, none⟩ = some (.int .i64 q[k].2.sz) ∧ w'.cell? ⟨b, off + k * 4 + 2, none⟩ = some (.string q[k].2.sum) ∧ w'.cell? ⟨b, off + k * 4 + 3, none⟩ = some q[k].1)) := fun w' h => ⟨(h.cell (p := ⟨b, off + k * 4, none⟩) hb).trans c0, (h.cell (p := ⟨b, off + k * 4 + 1, none⟩) hb).trans c1, (h.cell (p := ⟨b, off + k * 4 + 2, none⟩) hb).trans c2, (h.cell (p := ⟨b, off + k * 4 + 3, none⟩) hb).trans c3⟩
      have HX : Hid (∀ W, Below w.heap.size w W → Calls Try.prog 14 #[.agg #[.int .i64 q[k].2.n, .int .i64 q[k].2.sz, .string q[k].2.sum, q[k].1]] W fun e w' => e = .returned (.int .i64 (ptE q[k].2)) ∧ Hid (Below w.heap.size w w')) := fun W hW => (CK0.out k hlt W (hp.next hW)).mono fun e w' ⟨he, hb⟩ => ⟨he, below_on hW hb⟩
      have HLT := hid hlt
      have hkL : (k : Int) < 8796093022208 := by have := HL.out; omega
      have hpf := hp.sl
      clear HC HR c0 c1 c2 c3 hp HL CK0 hb
      generalize q[k] = y at *
      obtain ⟨pv, id, sz, sum, ps⟩ := y
      simp only at *
      obtain ⟨ad2, cap2, rfl⟩ := hpf
      generalize ps.length = pn at *
      generalize ptE _ = E at *
      generalize ptOk _ = OK at *
      generalize prevT (tqL q) k = PV at *
      have Y5 := hid (HCS.out _ HB.out)
      have BD : Hid (Below w.heap.size w wr.drew) := HB.out.drew
      have HX1 : Hid (∀ W, Below w.heap.size w W → Calls Try.prog 14 #[.agg #[.int .i64 id, .int .i64 sz, .string sum, .slice ad2 pn cap2]] W fun e w' => e = .returned (.int .i64 E) ∧ (w'.cell? ⟨b, off + k * 4, none⟩ = some (.int .i64 id) ∧ w'.cell? ⟨b, off + k * 4 + 1, none⟩ = some (.int .i64 sz) ∧ w'.cell? ⟨b, off + k * 4 + 2, none⟩ = some (.string sum) ∧ w'.cell? ⟨b, off + k * 4 + 3, none⟩ = some (.slice ad2 pn cap2)) ∧ Hid (Below w.heap.size w w')) := fun W hW => (HX.out W hW).mono fun e w' ⟨he, hb⟩ => ⟨he, HCS.out _ hb.out, hb⟩
      rcases HE.out with ⟨rfl, rfl⟩ | ⟨rfl, rfl⟩
      · rcases HPV.out with ⟨hz, rfl⟩ | ⟨m, pi, hz, rfl, hpi⟩
        · have HG := hid (HGO.out rfl rfl)
          have g1 : decide (0 < (k : Int)) = false := decide_eq_false (by omega)
          have g2 : decide (0 < k) = false := decide_eq_false (by omega)
          clear HBAD HGO HE HPV hk hlt hz HX HCS HRC
          go_wp2
          refine wp_region_held_drew (S := (fun w' => (w'.cell? ⟨b, off + k * 4, none⟩ = some (.int .i64 id) ∧ w'.cell? ⟨b, off + k * 4 + 1, none⟩ = some (.int .i64 sz) ∧ w'.cell? ⟨b, off + k * 4 + 2, none⟩ = some (.string sum) ∧ w'.cell? ⟨b, off + k * 4 + 3, none⟩ = some (.slice ad2 pn cap2)))) (by kernel_rfl) Y5.out (fun hHeld => ?_)
          refine wpAnyH_take (i := 0) (v := ?vv20) rfl (by kernel_rfl) (by kernel_rfl) (by kernel_rfl) (fun _ _ _ h => h) (Or.inl ⟨by rfl, ?hy20⟩) (by assumption) ?rest20
          case hy20 => (intro w hSw; (try dsimp only at hSw); go_simp; first | done | with_reducible rfl)
          try simp only [Act.put, List.getElem_toArray, List.getElem_cons_succ, List.getElem_cons_zero, List.setIfInBounds_toArray, List.set_cons_zero, List.set_cons_succ]
          refine wpAnyH_take (i := 1) (v := ?vv21) rfl (by kernel_rfl) (by kernel_rfl) (by kernel_rfl) (fun _ _ _ h => h) (Or.inl ⟨by rfl, ?hy21⟩) (by assumption) ?rest21
          case hy21 => (intro w hSw; (try dsimp only at hSw); go_simp; first | done | with_reducible rfl)
          try simp only [Act.put, List.getElem_toArray, List.getElem_cons_succ, List.getElem_cons_zero, List.setIfInBounds_toArray, List.set_cons_zero, List.set_cons_succ]
          refine wpAnyH_take (i := 2) (v := ?vv22) rfl (by kernel_rfl) (by kernel_rfl) (by kernel_rfl) (fun _ _ _ h => h) (Or.inl ⟨by rfl, ?hy22⟩) (by assumption) ?rest22
          case hy22 => (intro w hSw; (try dsimp only at hSw); go_simp; first | done | with_reducible rfl)
          try simp only [Act.put, List.getElem_toArray, List.getElem_cons_succ, List.getElem_cons_zero, List.setIfInBounds_toArray, List.set_cons_zero, List.set_cons_succ]
          refine wpAnyH_take (i := 3) (v := ?vv23) rfl (by kernel_rfl) (by kernel_rfl) (by kernel_rfl) (fun _ _ _ h => h) (Or.inl ⟨by rfl, ?hy23⟩) (by assumption) ?rest23
          case hy23 => (intro w hSw; (try dsimp only at hSw); go_simp; first | done | with_reducible rfl)
          try simp only [Act.put, List.getElem_toArray, List.getElem_cons_succ, List.getElem_cons_zero, List.setIfInBounds_toArray, List.set_cons_zero, List.set_cons_succ]
          refine wpAnyH_ready (rs := [4]) (by kernel_rfl) (by simp) ?_
          refine AllReadyH.cons rfl (fun K hK => ?_) AllReadyH.nil
          go_simp
          refine (HX1.out _ BD.out).mono ?_
          rintro e w5 ⟨rfl, ZC, B5⟩
          go_wp2_with fail
          refine hK.out _ _ ZC (fun hHeld => ?_)
          clear hK K
          try simp only [Act.put, List.getElem_toArray, List.getElem_cons_succ, List.getElem_cons_zero, List.setIfInBounds_toArray, List.set_cons_zero, List.set_cons_succ]
          refine wpAnyH_take (i := 5) (v := ?vv24) rfl (by kernel_rfl) (by kernel_rfl) (by kernel_rfl) (fun _ _ _ h => h) (Or.inl ⟨by rfl, ?hy24⟩) (by assumption) ?rest24
          case hy24 => (intro w hSw; (try dsimp only at hSw); go_simp; first | done | with_reducible rfl)
          try simp only [Act.put, List.getElem_toArray, List.getElem_cons_succ, List.getElem_cons_zero, List.setIfInBounds_toArray, List.set_cons_zero, List.set_cons_succ]
          refine wpAnyH_take (i := 6) (v := ?vv25) rfl (by kernel_rfl) (by kernel_rfl) (by kernel_rfl) (fun _ _ _ h => h) (Or.inl ⟨by rfl, ?hy25⟩) (by assumption) ?rest25
          case hy25 => (intro w hSw; (try dsimp only at hSw); go_simp; first | done | with_reducible rfl)
          try simp only [Act.put, List.getElem_toArray, List.getElem_cons_succ, List.getElem_cons_zero, List.setIfInBounds_toArray, List.set_cons_zero, List.set_cons_succ]
          refine wpAnyH_take (i := 7) (v := ?vv26) rfl (by kernel_rfl) (by kernel_rfl) (by kernel_rfl) (fun _ _ _ h => h) (Or.inl ⟨by rfl, ?hy26⟩) (by assumption) ?rest26
          case hy26 => (intro w hSw; (try dsimp only at hSw); go_simp; first | done | with_reducible rfl)
          try simp only [Act.put, List.getElem_toArray, List.getElem_cons_succ, List.getElem_cons_zero, List.setIfInBounds_toArray, List.set_cons_zero, List.set_cons_succ]
          refine wpAnyH_take (i := 8) (v := ?vv27) rfl (by kernel_rfl) (by kernel_rfl) (by kernel_rfl) (fun _ _ _ h => h) (Or.inl ⟨by rfl, ?hy27⟩) (by assumption) ?rest27
          case hy27 => (intro w hSw; (try dsimp only at hSw); go_simp; first | done | with_reducible rfl)
          try simp only [Act.put, List.getElem_toArray, List.getElem_cons_succ, List.getElem_cons_zero, List.setIfInBounds_toArray, List.set_cons_zero, List.set_cons_succ]
          refine wpAnyH_take (i := 9) (v := ?vv28) rfl (by kernel_rfl) (by kernel_rfl) (by kernel_rfl) (fun _ _ _ h => h) (Or.inl ⟨by rfl, ?hy28⟩) (by assumption) ?rest28
          case hy28 => (intro w hSw; (try dsimp only at hSw); go_simp; first | done | with_reducible rfl)
          try simp only [Act.put, List.getElem_toArray, List.getElem_cons_succ, List.getElem_cons_zero, List.setIfInBounds_toArray, List.set_cons_zero, List.set_cons_succ]
          refine wpAnyH_take (i := 10) (v := undef) rfl (by kernel_rfl) (by kernel_rfl) (by kernel_rfl) (fun _ _ _ h => h) (Or.inr ⟨by rfl, rfl⟩) (by assumption) ?_
          try simp only [Act.put, List.getElem_toArray, List.getElem_cons_succ, List.getElem_cons_zero, List.setIfInBounds_toArray, List.set_cons_zero, List.set_cons_succ]
          refine wpAnyH_take (i := 11) (v := undef) rfl (by kernel_rfl) (by kernel_rfl) (by kernel_rfl) (fun _ _ _ h => h) (Or.inr ⟨by rfl, rfl⟩) (by assumption) ?_
          try simp only [Act.put, List.getElem_toArray, List.getElem_cons_succ, List.getElem_cons_zero, List.setIfInBounds_toArray, List.set_cons_zero, List.set_cons_succ]
          refine wpAnyH_take (i := 12) (v := undef) rfl (by kernel_rfl) (by kernel_rfl) (by kernel_rfl) (fun _ _ _ h => h) (Or.inr ⟨by rfl, rfl⟩) (by assumption) ?_
          try simp only [Act.put, List.getElem_toArray, List.getElem_cons_succ, List.getElem_cons_zero, List.setIfInBounds_toArray, List.set_cons_zero, List.set_cons_succ]
          refine wpAnyH_take (i := 13) (v := undef) rfl (by kernel_rfl) (by kernel_rfl) (by kernel_rfl) (fun _ _ _ h => h) (Or.inr ⟨by rfl, rfl⟩) (by assumption) ?_
          try simp only [Act.put, List.getElem_toArray, List.getElem_cons_succ, List.getElem_cons_zero, List.setIfInBounds_toArray, List.set_cons_zero, List.set_cons_succ]
          refine wpAnyH_take (i := 14) (v := undef) rfl (by kernel_rfl) (by kernel_rfl) (by kernel_rfl) (fun _ _ _ h => h) (Or.inr ⟨by rfl, rfl⟩) (by assumption) ?_
          try simp only [Act.put, List.getElem_toArray, List.getElem_cons_succ, List.getElem_cons_zero, List.setIfInBounds_toArray, List.set_cons_zero, List.set_cons_succ]
          refine wpAnyH_take (i := 15) (v := undef) rfl (by kernel_rfl) (by kernel_rfl) (by kernel_rfl) (fun _ _ _ h => h) (Or.inr ⟨by rfl, rfl⟩) (by assumption) ?_
          try simp only [Act.put, List.getElem_toArray, List.getElem_cons_succ, List.getElem_cons_zero, List.setIfInBounds_toArray, List.set_cons_zero, List.set_cons_succ]
          refine wpAnyH_take (i := 16) (v := undef) rfl (by kernel_rfl) (by kernel_rfl) (by kernel_rfl) (fun _ _ _ h => h) (Or.inr ⟨by rfl, rfl⟩) (by assumption) ?_
          try simp only [Act.put, List.getElem_toArray, List.getElem_cons_succ, List.getElem_cons_zero, List.setIfInBounds_toArray, List.set_cons_zero, List.set_cons_succ]
          refine wpAnyH_take (i := 17) (v := undef) rfl (by kernel_rfl) (by kernel_rfl) (by kernel_rfl) (fun _ _ _ h => h) (Or.inr ⟨by rfl, rfl⟩) (by assumption) ?_
          try simp only [Act.put, List.getElem_toArray, List.getElem_cons_succ, List.getElem_cons_zero, List.setIfInBounds_toArray, List.set_cons_zero, List.set_cons_succ]
          refine wpAnyH_take (i := 18) (v := undef) rfl (by kernel_rfl) (by kernel_rfl) (by kernel_rfl) (fun _ _ _ h => h) (Or.inr ⟨by rfl, rfl⟩) (by assumption) ?_
          try simp only [Act.put, List.getElem_toArray, List.getElem_cons_succ, List.getElem_cons_zero, List.setIfInBounds_toArray, List.set_cons_zero, List.set_cons_succ]
          refine wpAnyH_take (i := 19) (v := undef) rfl (by kernel_rfl) (by kernel_rfl) (by kernel_rfl) (fun _ _ _ h => h) (Or.inr ⟨by rfl, rfl⟩) (by assumption) ?_
          try simp only [Act.put, List.getElem_toArray, List.getElem_cons_succ, List.getElem_cons_zero, List.setIfInBounds_toArray, List.set_cons_zero, List.set_cons_succ]
          refine wpAnyH_take (i := 20) (v := undef) rfl (by kernel_rfl) (by kernel_rfl) (by kernel_rfl) (fun _ _ _ h => h) (Or.inr ⟨by rfl, rfl⟩) (by assumption) ?_
          try simp only [Act.put, List.getElem_toArray, List.getElem_cons_succ, List.getElem_cons_zero, List.setIfInBounds_toArray, List.set_cons_zero, List.set_cons_succ]
          refine wpAnyH_take (i := 21) (v := undef) rfl (by kernel_rfl) (by kernel_rfl) (by kernel_rfl) (fun _ _ _ h => h) (Or.inr ⟨by rfl, rfl⟩) (by assumption) ?_
          try simp only [Act.put, List.getElem_toArray, List.getElem_cons_succ, List.getElem_cons_zero, List.setIfInBounds_toArray, List.set_cons_zero, List.set_cons_succ]
          refine wpAnyH_take (i := 22) (v := ?vv29) rfl (by kernel_rfl) (by kernel_rfl) (by kernel_rfl) (fun _ _ _ h => h) (Or.inl ⟨by rfl, ?hy29⟩) (by assumption) ?rest29
          case hy29 => (intro w hSw; (try dsimp only at hSw); go_simp; first | done | with_reducible rfl)
          try simp only [Act.put, List.getElem_toArray, List.getElem_cons_succ, List.getElem_cons_zero, List.setIfInBounds_toArray, List.set_cons_zero, List.set_cons_succ]
          refine wpAnyH_take (i := 23) (v := ?vv30) rfl (by kernel_rfl) (by kernel_rfl) (by kernel_rfl) (fun _ _ _ h => h) (Or.inl ⟨by rfl, ?hy30⟩) (by assumption) ?rest30
          case hy30 => (intro w hSw; (try dsimp only at hSw); go_simp; first | done | with_reducible rfl)
          try simp only [Act.put, List.getElem_toArray, List.getElem_cons_succ, List.getElem_cons_zero, List.setIfInBounds_toArray, List.set_cons_zero, List.set_cons_succ]
          refine wpAnyH_done (by kernel_rfl) ?_ _
          clear hHeld ZC
          go_wp2
          exact ⟨⟨k + 1, HLT.out, by first | rw [hwk] | rfl | simp, B5, HG⟩, by (try rw [hwk]); have := HLT.out; simp [intOf]; omega⟩
        · have g1 : decide (0 < (k : Int)) = true := decide_eq_true (by omega)
          have g2 : decide (0 < k) = true := decide_eq_true (by omega)
          have hw1 : wrap64 ((k : Int) - 1) = (m : Int) := by rw [IntWalk.wrap64_in _ (by omega)]; omega
          have hw2 : IntKind.i64.wrap ((k : Int) - 1) = (m : Int) := by rw [IntKind.wrap_i64]; omega
          have hm0 : (0 : Int) ≤ (m : Int) := by omega
          have hm1 : (m : Int) < (q.length : Int) := by omega
          have HPI := hid hpi
          have Y6 : Hid ((wr.cell? ⟨b, off + k * 4, none⟩ = some (.int .i64 id) ∧ wr.cell? ⟨b, off + k * 4 + 1, none⟩ = some (.int .i64 sz) ∧ wr.cell? ⟨b, off + k * 4 + 2, none⟩ = some (.string sum) ∧ wr.cell? ⟨b, off + k * 4 + 3, none⟩ = some (.slice ad2 pn cap2)) ∧ wr.cell? ⟨b, off + m * 4, none⟩ = some (.int .i64 pi)) := ⟨Y5.out, HPI.out _ HB.out⟩
          have HX2 : Hid (∀ W, Below w.heap.size w W → Calls Try.prog 14 #[.agg #[.int .i64 id, .int .i64 sz, .string sum, .slice ad2 pn cap2]] W fun e w' => e = .returned (.int .i64 0) ∧ ((w'.cell? ⟨b, off + k * 4, none⟩ = some (.int .i64 id) ∧ w'.cell? ⟨b, off + k * 4 + 1, none⟩ = some (.int .i64 sz) ∧ w'.cell? ⟨b, off + k * 4 + 2, none⟩ = some (.string sum) ∧ w'.cell? ⟨b, off + k * 4 + 3, none⟩ = some (.slice ad2 pn cap2)) ∧ w'.cell? ⟨b, off + m * 4, none⟩ = some (.int .i64 pi)) ∧ Hid (Below w.heap.size w w')) := fun W hW => (HX1.out W hW).mono fun e w' ⟨he, hz, hb⟩ => ⟨he, ⟨hz, HPI.out _ hb.out⟩, hb⟩
          by_cases hge : id ≤ pi
          · have g3 : decide (id ≤ pi) = true := decide_eq_true hge
            have hr := HBAD.out (.inr (show decide (pi < id) = false from decide_eq_false (by omega)))
            have hrr : RR = false := by rw [HRC.out, hr]
            subst hrr
            clear HBAD HGO HE HPV hk hlt hz hpi HX HX1 hge HCS HRC HPI
            go_wp2
            go_region_held3 (fun w' => (w'.cell? ⟨b, off + k * 4, none⟩ = some (.int .i64 id) ∧ w'.cell? ⟨b, off + k * 4 + 1, none⟩ = some (.int .i64 sz) ∧ w'.cell? ⟨b, off + k * 4 + 2, none⟩ = some (.string sum) ∧ w'.cell? ⟨b, off + k * 4 + 3, none⟩ = some (.slice ad2 pn cap2)) ∧ w'.cell? ⟨b, off + m * 4, none⟩ = some (.int .i64 pi)) (first | exact Y6.out | with_reducible assumption) (first | (go_at_call 14; with_reducible (refine (HX2.out _ ?_).mono ?_); (exact BD.out); rintro e w5 ⟨rfl, ZC, B5⟩))
            clear ZC
            go_wp2
            go_ret
            exact ⟨rfl, B5.out⟩
          · have g3 : decide (id ≤ pi) = false := decide_eq_false hge
            have HG := hid (HGO.out rfl (show decide (pi < id) = true from decide_eq_true (by omega)))
            clear HBAD HGO HE HPV hk hlt hz hpi HX HX1 hge HCS HRC HPI
            go_wp2
            go_region_held3 (fun w' => (w'.cell? ⟨b, off + k * 4, none⟩ = some (.int .i64 id) ∧ w'.cell? ⟨b, off + k * 4 + 1, none⟩ = some (.int .i64 sz) ∧ w'.cell? ⟨b, off + k * 4 + 2, none⟩ = some (.string sum) ∧ w'.cell? ⟨b, off + k * 4 + 3, none⟩ = some (.slice ad2 pn cap2)) ∧ w'.cell? ⟨b, off + m * 4, none⟩ = some (.int .i64 pi)) (first | exact Y6.out | with_reducible assumption) (first | (go_at_call 14; with_reducible (refine (HX2.out _ ?_).mono ?_); (exact BD.out); rintro e w5 ⟨rfl, ZC, B5⟩))
            clear ZC
            go_wp2
            exact ⟨⟨k + 1, HLT.out, by first | rw [hwk] | rfl | simp, B5, HG⟩, by (try rw [hwk]); have := HLT.out; simp [intOf]; omega⟩
      · have hr := HBAD.out (.inl rfl)
        have hrr : RR = false := by rw [HRC.out, hr]
        subst hrr
        clear HBAD HGO HE HPV hk hlt HX HCS HRC
        go_wp2
        refine wp_region_held_drew (S := (fun w' => (w'.cell? ⟨b, off + k * 4, none⟩ = some (.int .i64 id) ∧ w'.cell? ⟨b, off + k * 4 + 1, none⟩ = some (.int .i64 sz) ∧ w'.cell? ⟨b, off + k * 4 + 2, none⟩ = some (.string sum) ∧ w'.cell? ⟨b, off + k * 4 + 3, none⟩ = some (.slice ad2 pn cap2)))) (by kernel_rfl) Y5.out (fun hHeld => ?_)
        refine wpAnyH_take (i := 0) (v := ?vv13) rfl (by kernel_rfl) (by kernel_rfl) (by kernel_rfl) (fun _ _ _ h => h) (Or.inl ⟨by rfl, ?hy13⟩) (by assumption) ?rest13
        case hy13 => (intro w hSw; (try dsimp only at hSw); go_simp; first | done | with_reducible rfl)
        try simp only [Act.put, List.getElem_toArray, List.getElem_cons_succ, List.getElem_cons_zero, List.setIfInBounds_toArray, List.set_cons_zero, List.set_cons_succ]
        refine wpAnyH_take (i := 1) (v := ?vv14) rfl (by kernel_rfl) (by kernel_rfl) (by kernel_rfl) (fun _ _ _ h => h) (Or.inl ⟨by rfl, ?hy14⟩) (by assumption) ?rest14
        case hy14 => (intro w hSw; (try dsimp only at hSw); go_simp; first | done | with_reducible rfl)
        try simp only [Act.put, List.getElem_toArray, List.getElem_cons_succ, List.getElem_cons_zero, List.setIfInBounds_toArray, List.set_cons_zero, List.set_cons_succ]
        refine wpAnyH_take (i := 2) (v := ?vv15) rfl (by kernel_rfl) (by kernel_rfl) (by kernel_rfl) (fun _ _ _ h => h) (Or.inl ⟨by rfl, ?hy15⟩) (by assumption) ?rest15
        case hy15 => (intro w hSw; (try dsimp only at hSw); go_simp; first | done | with_reducible rfl)
        try simp only [Act.put, List.getElem_toArray, List.getElem_cons_succ, List.getElem_cons_zero, List.setIfInBounds_toArray, List.set_cons_zero, List.set_cons_succ]
        refine wpAnyH_take (i := 3) (v := ?vv16) rfl (by kernel_rfl) (by kernel_rfl) (by kernel_rfl) (fun _ _ _ h => h) (Or.inl ⟨by rfl, ?hy16⟩) (by assumption) ?rest16
        case hy16 => (intro w hSw; (try dsimp only at hSw); go_simp; first | done | with_reducible rfl)
        try simp only [Act.put, List.getElem_toArray, List.getElem_cons_succ, List.getElem_cons_zero, List.setIfInBounds_toArray, List.set_cons_zero, List.set_cons_succ]
        refine wpAnyH_ready (rs := [4]) (by kernel_rfl) (by simp) ?_
        refine AllReadyH.cons rfl (fun K hK => ?_) AllReadyH.nil
        go_simp
        refine (HX1.out _ BD.out).mono ?_
        rintro e w5 ⟨rfl, ZC, B5⟩
        go_wp2_with fail
        refine hK.out _ _ ZC (fun hHeld => ?_)
        clear hK K
        try simp only [Act.put, List.getElem_toArray, List.getElem_cons_succ, List.getElem_cons_zero, List.setIfInBounds_toArray, List.set_cons_zero, List.set_cons_succ]
        refine wpAnyH_take (i := 5) (v := ?vv17) rfl (by kernel_rfl) (by kernel_rfl) (by kernel_rfl) (fun _ _ _ h => h) (Or.inl ⟨by rfl, ?hy17⟩) (by assumption) ?rest17
        case hy17 => (intro w hSw; (try dsimp only at hSw); go_simp; first | done | with_reducible rfl)
        try simp only [Act.put, List.getElem_toArray, List.getElem_cons_succ, List.getElem_cons_zero, List.setIfInBounds_toArray, List.set_cons_zero, List.set_cons_succ]
        refine wpAnyH_take (i := 6) (v := ?vv18) rfl (by kernel_rfl) (by kernel_rfl) (by kernel_rfl) (fun _ _ _ h => h) (Or.inl ⟨by rfl, ?hy18⟩) (by assumption) ?rest18
        case hy18 => (intro w hSw; (try dsimp only at hSw); go_simp; first | done | with_reducible rfl)
        try simp only [Act.put, List.getElem_toArray, List.getElem_cons_succ, List.getElem_cons_zero, List.setIfInBounds_toArray, List.set_cons_zero, List.set_cons_succ]
        refine wpAnyH_take (i := 7) (v := undef) rfl (by kernel_rfl) (by kernel_rfl) (by kernel_rfl) (fun _ _ _ h => h) (Or.inr ⟨by rfl, rfl⟩) (by assumption) ?_
        try simp only [Act.put, List.getElem_toArray, List.getElem_cons_succ, List.getElem_cons_zero, List.setIfInBounds_toArray, List.set_cons_zero, List.set_cons_succ]
        refine wpAnyH_take (i := 8) (v := undef) rfl (by kernel_rfl) (by kernel_rfl) (by kernel_rfl) (fun _ _ _ h => h) (Or.inr ⟨by rfl, rfl⟩) (by assumption) ?_
        try simp only [Act.put, List.getElem_toArray, List.getElem_cons_succ, List.getElem_cons_zero, List.setIfInBounds_toArray, List.set_cons_zero, List.set_cons_succ]
        refine wpAnyH_take (i := 9) (v := undef) rfl (by kernel_rfl) (by kernel_rfl) (by kernel_rfl) (fun _ _ _ h => h) (Or.inr ⟨by rfl, rfl⟩) (by assumption) ?_
        try simp only [Act.put, List.getElem_toArray, List.getElem_cons_succ, List.getElem_cons_zero, List.setIfInBounds_toArray, List.set_cons_zero, List.set_cons_succ]
        refine wpAnyH_take (i := 10) (v := undef) rfl (by kernel_rfl) (by kernel_rfl) (by kernel_rfl) (fun _ _ _ h => h) (Or.inr ⟨by rfl, rfl⟩) (by assumption) ?_
        try simp only [Act.put, List.getElem_toArray, List.getElem_cons_succ, List.getElem_cons_zero, List.setIfInBounds_toArray, List.set_cons_zero, List.set_cons_succ]
        refine wpAnyH_take (i := 11) (v := undef) rfl (by kernel_rfl) (by kernel_rfl) (by kernel_rfl) (fun _ _ _ h => h) (Or.inr ⟨by rfl, rfl⟩) (by assumption) ?_
        try simp only [Act.put, List.getElem_toArray, List.getElem_cons_succ, List.getElem_cons_zero, List.setIfInBounds_toArray, List.set_cons_zero, List.set_cons_succ]
        refine wpAnyH_take (i := 12) (v := undef) rfl (by kernel_rfl) (by kernel_rfl) (by kernel_rfl) (fun _ _ _ h => h) (Or.inr ⟨by rfl, rfl⟩) (by assumption) ?_
        try simp only [Act.put, List.getElem_toArray, List.getElem_cons_succ, List.getElem_cons_zero, List.setIfInBounds_toArray, List.set_cons_zero, List.set_cons_succ]
        refine wpAnyH_take (i := 13) (v := undef) rfl (by kernel_rfl) (by kernel_rfl) (by kernel_rfl) (fun _ _ _ h => h) (Or.inr ⟨by rfl, rfl⟩) (by assumption) ?_
        try simp only [Act.put, List.getElem_toArray, List.getElem_cons_succ, List.getElem_cons_zero, List.setIfInBounds_toArray, List.set_cons_zero, List.set_cons_succ]
        refine wpAnyH_take (i := 14) (v := undef) rfl (by kernel_rfl) (by kernel_rfl) (by kernel_rfl) (fun _ _ _ h => h) (Or.inr ⟨by rfl, rfl⟩) (by assumption) ?_
        try simp only [Act.put, List.getElem_toArray, List.getElem_cons_succ, List.getElem_cons_zero, List.setIfInBounds_toArray, List.set_cons_zero, List.set_cons_succ]
        refine wpAnyH_take (i := 15) (v := undef) rfl (by kernel_rfl) (by kernel_rfl) (by kernel_rfl) (fun _ _ _ h => h) (Or.inr ⟨by rfl, rfl⟩) (by assumption) ?_
        try simp only [Act.put, List.getElem_toArray, List.getElem_cons_succ, List.getElem_cons_zero, List.setIfInBounds_toArray, List.set_cons_zero, List.set_cons_succ]
        refine wpAnyH_take (i := 16) (v := undef) rfl (by kernel_rfl) (by kernel_rfl) (by kernel_rfl) (fun _ _ _ h => h) (Or.inr ⟨by rfl, rfl⟩) (by assumption) ?_
        try simp only [Act.put, List.getElem_toArray, List.getElem_cons_succ, List.getElem_cons_zero, List.setIfInBounds_toArray, List.set_cons_zero, List.set_cons_succ]
        refine wpAnyH_take (i := 17) (v := undef) rfl (by kernel_rfl) (by kernel_rfl) (by kernel_rfl) (fun _ _ _ h => h) (Or.inr ⟨by rfl, rfl⟩) (by assumption) ?_
        try simp only [Act.put, List.getElem_toArray, List.getElem_cons_succ, List.getElem_cons_zero, List.setIfInBounds_toArray, List.set_cons_zero, List.set_cons_succ]
        refine wpAnyH_take (i := 18) (v := undef) rfl (by kernel_rfl) (by kernel_rfl) (by kernel_rfl) (fun _ _ _ h => h) (Or.inr ⟨by rfl, rfl⟩) (by assumption) ?_
        try simp only [Act.put, List.getElem_toArray, List.getElem_cons_succ, List.getElem_cons_zero, List.setIfInBounds_toArray, List.set_cons_zero, List.set_cons_succ]
        refine wpAnyH_take (i := 19) (v := undef) rfl (by kernel_rfl) (by kernel_rfl) (by kernel_rfl) (fun _ _ _ h => h) (Or.inr ⟨by rfl, rfl⟩) (by assumption) ?_
        try simp only [Act.put, List.getElem_toArray, List.getElem_cons_succ, List.getElem_cons_zero, List.setIfInBounds_toArray, List.set_cons_zero, List.set_cons_succ]
        refine wpAnyH_take (i := 20) (v := undef) rfl (by kernel_rfl) (by kernel_rfl) (by kernel_rfl) (fun _ _ _ h => h) (Or.inr ⟨by rfl, rfl⟩) (by assumption) ?_
        try simp only [Act.put, List.getElem_toArray, List.getElem_cons_succ, List.getElem_cons_zero, List.setIfInBounds_toArray, List.set_cons_zero, List.set_cons_succ]
        refine wpAnyH_take (i := 21) (v := undef) rfl (by kernel_rfl) (by kernel_rfl) (by kernel_rfl) (fun _ _ _ h => h) (Or.inr ⟨by rfl, rfl⟩) (by assumption) ?_
        try simp only [Act.put, List.getElem_toArray, List.getElem_cons_succ, List.getElem_cons_zero, List.setIfInBounds_toArray, List.set_cons_zero, List.set_cons_succ]
        refine wpAnyH_take (i := 22) (v := undef) rfl (by kernel_rfl) (by kernel_rfl) (by kernel_rfl) (fun _ _ _ h => h) (Or.inr ⟨by rfl, rfl⟩) (by assumption) ?_
        try simp only [Act.put, List.getElem_toArray, List.getElem_cons_succ, List.getElem_cons_zero, List.setIfInBounds_toArray, List.set_cons_zero, List.set_cons_succ]
        refine wpAnyH_take (i := 23) (v := ?vv19) rfl (by kernel_rfl) (by kernel_rfl) (by kernel_rfl) (fun _ _ _ h => h) (Or.inl ⟨by rfl, ?hy19⟩) (by assumption) ?rest19
        case hy19 => (intro w hSw; (try dsimp only at hSw); go_simp; first | done | with_reducible rfl)
        try simp only [Act.put, List.getElem_toArray, List.getElem_cons_succ, List.getElem_cons_zero, List.setIfInBounds_toArray, List.set_cons_zero, List.set_cons_succ]
        refine wpAnyH_done (by kernel_rfl) ?_ _
        clear hHeld ZC
        go_wp2
        go_ret
        exact ⟨rfl, B5.out⟩
    · have hke : k = q.length := by omega
      have hd : decide ((k : Int) < (q.length : Int)) = false := decide_eq_false (by omega)
      have hd2 : decide (k < q.length) = false := decide_eq_false hlt
      have HS : Hid (R = true) := by
        show _ = _
        rw [HR.out, List.drop_eq_nil_of_le (by rw [tqL_len]; omega)]; rfl
      have hrr : RR = true := by rw [HRC.out, HS.out]
      subst hrr
      clear HC HR HS HL CK0 hke hlt hk HRC
      go_wp2
      go_ret
      exact ⟨rfl, HB.out⟩
end Go.Proofs.Ytbiapepalkdkdab
namespace Go.Proofs.Ytbiapepalkdkdab
open Go.RowKit Go.Maps
set_option linter.unusedVariables false
set_option linter.unusedSimpArgs false

set_option maxRecDepth 100000 in
set_option maxHeartbeats 4000000 in
theorem trefs_any (v : Value) (q : List (Value × Pt)) (w : World) (hv : PtI w v q) (hl : q.length * 56 ≤ 140737488355328) (hs : ∀ y ∈ q, y.2.ps.length * 24 ≤ 140737488355328) : Calls Try.prog 11 #[v] w fun e w' => ∃ ad cap q', e = .returned (.slice ad q.length cap) ∧ tqL q' = tqL q ∧ OwnT w' w.heap.size 35 88 (.slice ad q.length cap) q' ∧ Below w.heap.size w w' := by
  obtain ⟨ad, cap, rfl, hc⟩ := hv.form
  have HC : Hid (∀ (k : Nat) (hk : k < q.length), ∃ b off, ad = some ⟨b, off, none⟩ ∧ (∀ W, Keep (fun _ => False) w W → W.cell? ⟨b, off + k * 4, none⟩ = some (.int .i64 q[k].2.n) ∧ W.cell? ⟨b, off + k * 4 + 1, none⟩ = some (.int .i64 q[k].2.sz) ∧ W.cell? ⟨b, off + k * 4 + 2, none⟩ = some (.string q[k].2.sum) ∧ W.cell? ⟨b, off + k * 4 + 3, none⟩ = some q[k].1) ∧ PcI w q[k].1 q[k].2.ps) := by
    intro k hk
    obtain ⟨b, off, e, hb, c0, c1, c2, c3, hp⟩ := hc k hk
    exact ⟨b, off, e, fun W hW => ⟨(hW.cell hb (fun h => h)).trans c0, (hW.cell hb (fun h => h)).trans c1, (hW.cell hb (fun h => h)).trans c2, (hW.cell hb (fun h => h)).trans c3⟩, hp⟩
  have HL := hid hl
  have HS : Hid (∀ (k : Nat) (hk : k < q.length) (W : World), Keep (fun _ => False) w W → Calls Try.prog 34 #[q[k].1] W fun e w' => ∃ ad cap, e = .returned (.slice ad q[k].2.ps.length cap) ∧ OwnP w' W.heap.size 88 (.slice ad q[k].2.ps.length cap) q[k].2.ps ∧ Below W.heap.size W w') := fun k hk W hW => by
    obtain ⟨b, off, _, _, _, _, _, _, hp⟩ := hc k hk
    exact lpiece_any _ _ W (hp.next (keep_below hW (fun _ _ h => h) (Nat.le_refl _))) (hs _ (List.getElem_mem hk))
  have HTK : Hid (∀ (k : Nat) (hk : k < q.length), (tqL q).take (k + 1) = (tqL q).take k ++ [q[k].2]) := fun k hk => by
    rw [List.take_succ_eq_append_getElem (by rw [tqL_len]; exact hk), tqL_get q k hk]
  have HZ : Hid ((tqL q).take q.length = tqL q) := by show _ = _; rw [← tqL_len, List.take_length]
  clear hc hv hl hs
  go_enter Try.func11, Try.ntmps11
  go_wp2
  go_loopw [3, 4] (fun o i wr => ∃ (k : Nat) (ad1 : Option Addr) (cp1 : Nat) (q1 : List (Value × Pt)), k ≤ q.length ∧ o = .slice ad1 k cp1 ∧ i = .int .i64 (k : Int) ∧ Hid (q1.length = k ∧ tqL q1 = (tqL q).take k ∧ OwnT wr w.heap.size 35 88 (.slice ad1 k cp1) q1) ∧ Hid (Keep (fun _ => False) w wr)) (fun _ i _ => q.length - (intOf i).toNat)
  case atStart => exact ⟨0, none, 0, [], Nat.zero_le _, rfl, rfl, ⟨rfl, rfl, ownT_nil _ _ _ _⟩, Keep.refl _ _⟩
  case round =>
    obtain ⟨k, ad1, cp1, q1, hk, rfl, rfl, HR, HK⟩ := hrel
    by_cases hlt : k < q.length
    · have hk1 : (k : Int) < (q.length : Int) := by omega
      have hk0 : (0 : Int) ≤ (k : Int) := by omega
      obtain ⟨b, off, rfl, hcell, hp⟩ := HC.out k hlt
      have HLE : Hid (k + 1 ≤ 4611686018427387904) := by have := HL.out; show _ ≤ _; omega
      have HLB : Hid ((k + 1) * 56 ≤ 140737488355328) := by have := HL.out; show _ ≤ _; omega
      have hwk : wrap64 ((k : Int) + 1) = ((k + 1 : Nat) : Int) := by have := HL.out; rw [IntWalk.wrap64_in _ (by omega)]; omega
      have HLT := hid hlt
      have HT := hid (HTK.out k hlt)
      have PS := hid (HS.out k hlt)
      have HCE := hid hcell
      have hpf := hp.sl
      clear HC hp HL HS HTK HZ hcell
      generalize q[k] = y at *
      obtain ⟨pv, n, sz, sum, ps⟩ := y
      simp only at *
      obtain ⟨ad2, cap2, rfl⟩ := hpf
      generalize hpn : ps.length = pn at *
      obtain ⟨c0, c1, c2, c3⟩ := HCE.out _ HK.out
      have CP : Hid (∀ W, Keep (fun _ => False) wr W → Calls Try.prog 34 #[.slice ad2 pn cap2] W fun e w' => ∃ ad3 cap3, e = .returned (.slice ad3 pn cap3) ∧ Hid (Keep (fun _ => False) wr w') ∧ Hid (OwnP w' w.heap.size 88 (.slice ad3 pn cap3) ps) ∧ w'.cell? ⟨b, off + k * 4, none⟩ = some (.int .i64 n) ∧ w'.cell? ⟨b, off + k * 4 + 1, none⟩ = some (.int .i64 sz) ∧ w'.cell? ⟨b, off + k * 4 + 2, none⟩ = some (.string sum) ∧ w'.cell? ⟨b, off + k * 4 + 3, none⟩ = some (.slice ad2 pn cap2)) := fun W hW => (PS.out W (HK.out.trans hW)).mono fun e w' ⟨ad3, cap3, he, ho, hb⟩ => by
        have k2 := hW.trans (hb.keep (fun _ => False))
        obtain ⟨e0, e1, e2, e3⟩ := HCE.out w' (HK.out.trans k2)
        exact ⟨ad3, cap3, he, k2, ownsRow_base (by unfold OwnP at ho; exact ho) (Nat.le_trans HK.out.size hW.size), e0, e1, e2, e3⟩
      have KA : Hid (Keep (fun _ => False) wr wr) := Keep.refl _ _
      have KD : Hid (Keep (fun _ => False) wr wr.drew) := keep_drew _ _
      have AP : Hid (∀ w1 ad3 cap3 X, Keep (fun _ => False) wr w1 → X = Obj.cells #[.int .i64 n, .int .i64 sz, .string sum, .slice ad3 pn cap3] 35 → (w1.alloc X).ownsRow w.heap.size 35 4 (.slice ad1 k cp1) k (tqC q1) ∧ RowC (w1.alloc X) (.slice (some ⟨w1.heap.size, 0, none⟩) 1 1) 1 (ptC (.slice ad3 pn cap3, ⟨n, sz, sum, ps⟩))) := fun w1 ad3 cap3 X kk e => by
        subst e
        refine ⟨?_, RowC.own (own_made w1 [.int .i64 n, .int .i64 sz, .string sum, .slice ad3 pn cap3] 35 4 1 0 (Nat.zero_le _) rfl (by omega))⟩
        have := (kk.trans (keep_alloc _ w1 (.cells #[.int .i64 n, .int .i64 sz, .string sum, .slice ad3 pn cap3] 35))).ownsRow HR.out.2.2.1 (fun _ _ h => h)
        rw [HR.out.1] at this
        exact this
      have HBs : Hid (∀ w1 X, Keep (fun _ => False) wr w1 → w.heap.size ≤ (World.alloc w1 X).heap.size) := fun w1 X kk => Nat.le_trans HK.out.size (Nat.le_trans kk.size (keep_alloc (fun _ => False) _ _).size)
      have HO1 : Hid (∀ ad3 cap3, ∀ u ∈ ptC (.slice ad3 pn cap3, ⟨n, sz, sum, ps⟩), u.oneCell' = true) := fun _ _ => ptC_cell _ _ _ _
      have HX2 : Hid (∀ ad3 cap3, (ptC (.slice ad3 pn cap3, ⟨n, sz, sum, ps⟩)).length = 1 * 4) := fun _ _ => rfl
      have FIN : Hid (∀ w1 w2 ad3 cap3 ad' cap', Keep (fun _ => False) wr w1 → OwnP w1 w.heap.size 88 (.slice ad3 pn cap3) ps → w2.ownsRow w.heap.size 35 4 (.slice ad' (k + 1) cap') (k + 1) (tqC q1 ++ ptC (.slice ad3 pn cap3, ⟨n, sz, sum, ps⟩)) → Keep (fun j => (Value.slice ad1 k cp1).ownBlock = some j) (w1.alloc (Obj.cells #[.int .i64 n, .int .i64 sz, .string sum, .slice ad3 pn cap3] 35)) w2 → Hid ((q1 ++ [(Value.slice ad3 pn cap3, (⟨n, sz, sum, ps⟩ : Pt))]).length = k + 1 ∧ tqL (q1 ++ [(Value.slice ad3 pn cap3, (⟨n, sz, sum, ps⟩ : Pt))]) = (tqL q).take (k + 1) ∧ OwnT w2 w.heap.size 35 88 (.slice ad' (k + 1) cap') (q1 ++ [(Value.slice ad3 pn cap3, (⟨n, sz, sum, ps⟩ : Pt))])) ∧ Hid (Keep (fun _ => False) w w2)) := fun w1 w2 ad3 cap3 ad' cap' kk ho hr hk' => by
        have kal := kk.trans (keep_alloc (fun _ => False) w1 (.cells #[.int .i64 n, .int .i64 sz, .string sum, .slice ad3 pn cap3] 35))
        have r1 : OwnT (w1.alloc (Obj.cells #[.int .i64 n, .int .i64 sz, .string sum, .slice ad3 pn cap3] 35)) w.heap.size 35 88 (.slice ad1 k cp1) q1 := HR.out.2.2.next (keep_below kal (fun _ _ h => h) (Nat.le_refl _))
        have o1 := OwnP.next ho ((Below.refl w1.heap.size w1).alloc (Nat.le_refl _) (Obj.cells #[.int .i64 n, .int .i64 sz, .string sum, .slice ad3 pn cap3] 35))
        refine ⟨⟨by rw [List.length_append, HR.out.1]; rfl, by rw [tqL_app, HR.out.2.1, HT.out]; rfl, r1.app o1 (by decide) (by rw [HR.out.1]; exact hr) hk'⟩, (HK.out.trans kal).then hk' fun j hj e => ?_⟩
        have := ownsRow_ge r1.1 e
        omega
      have HCX : Hid (∀ W, Keep (fun _ => False) wr W → W.cell? ⟨b, off + k * 4, none⟩ = some (.int .i64 n) ∧ W.cell? ⟨b, off + k * 4 + 1, none⟩ = some (.int .i64 sz) ∧ W.cell? ⟨b, off + k * 4 + 2, none⟩ = some (.string sum) ∧ W.cell? ⟨b, off + k * 4 + 3, none⟩ = some (.slice ad2 pn cap2)) := fun W hW => HCE.out W (HK.out.trans hW)
      clear PS HT HR HK hlt hk
      generalize tqC q1 = PA at *
      go_wp2
      refine wp_region_held_drew (S := (fun w' => w'.cell? ⟨b, off + k * 4, none⟩ = some (.int .i64 n) ∧ w'.cell? ⟨b, off + k * 4 + 1, none⟩ = some (.int .i64 sz) ∧ w'.cell? ⟨b, off + k * 4 + 2, none⟩ = some (.string sum) ∧ w'.cell? ⟨b, off + k * 4 + 3, none⟩ = some (.slice ad2 pn cap2))) (by kernel_rfl) ⟨c0, c1, c2, c3⟩ (fun hHeld => ?_)
      refine wpAnyH_take (i := 0) (v := ?vv1) rfl (by kernel_rfl) (by kernel_rfl) (by kernel_rfl) (fun _ _ _ h => h) (Or.inl ⟨by rfl, ?hy1⟩) (by assumption) ?rest1
      case hy1 => (intro w hSw; (try dsimp only at hSw); go_simp; first | done | with_reducible rfl)
      try simp only [Act.put, List.getElem_toArray, List.getElem_cons_succ, List.getElem_cons_zero, List.setIfInBounds_toArray, List.set_cons_zero, List.set_cons_succ]
      refine wpAnyH_take (i := 1) (v := ?vv2) rfl (by kernel_rfl) (by kernel_rfl) (by kernel_rfl) (fun _ _ _ h => h) (Or.inl ⟨by rfl, ?hy2⟩) (by assumption) ?rest2
      case hy2 => (intro w hSw; (try dsimp only at hSw); go_simp; first | done | with_reducible rfl)
      try simp only [Act.put, List.getElem_toArray, List.getElem_cons_succ, List.getElem_cons_zero, List.setIfInBounds_toArray, List.set_cons_zero, List.set_cons_succ]
      refine wpAnyH_take (i := 2) (v := ?vv3) rfl (by kernel_rfl) (by kernel_rfl) (by kernel_rfl) (fun _ _ _ h => h) (Or.inl ⟨by rfl, ?hy3⟩) (by assumption) ?rest3
      case hy3 => (intro w hSw; (try dsimp only at hSw); go_simp; first | done | with_reducible rfl)
      try simp only [Act.put, List.getElem_toArray, List.getElem_cons_succ, List.getElem_cons_zero, List.setIfInBounds_toArray, List.set_cons_zero, List.set_cons_succ]
      refine wpAnyH_take (i := 3) (v := ?vv4) rfl (by kernel_rfl) (by kernel_rfl) (by kernel_rfl) (fun _ _ _ h => h) (Or.inl ⟨by rfl, ?hy4⟩) (by assumption) ?rest4
      case hy4 => (intro w hSw; (try dsimp only at hSw); go_simp; first | done | with_reducible rfl)
      try simp only [Act.put, List.getElem_toArray, List.getElem_cons_succ, List.getElem_cons_zero, List.setIfInBounds_toArray, List.set_cons_zero, List.set_cons_succ]
      refine wpAnyH_take (i := 4) (v := ?vv5) rfl (by kernel_rfl) (by kernel_rfl) (by kernel_rfl) (fun _ _ _ h => h) (Or.inl ⟨by rfl, ?hy5⟩) (by assumption) ?rest5
      case hy5 => (intro w hSw; (try dsimp only at hSw); go_simp; first | done | with_reducible rfl)
      try simp only [Act.put, List.getElem_toArray, List.getElem_cons_succ, List.getElem_cons_zero, List.setIfInBounds_toArray, List.set_cons_zero, List.set_cons_succ]
      refine wpAnyH_take (i := 5) (v := ?vv6) rfl (by kernel_rfl) (by kernel_rfl) (by kernel_rfl) (fun _ _ _ h => h) (Or.inl ⟨by rfl, ?hy6⟩) (by assumption) ?rest6
      case hy6 => (intro w hSw; (try dsimp only at hSw); go_simp; first | done | with_reducible rfl)
      try simp only [Act.put, List.getElem_toArray, List.getElem_cons_succ, List.getElem_cons_zero, List.setIfInBounds_toArray, List.set_cons_zero, List.set_cons_succ]
      refine wpAnyH_take (i := 6) (v := ?vv7) rfl (by kernel_rfl) (by kernel_rfl) (by kernel_rfl) (fun _ _ _ h => h) (Or.inl ⟨by rfl, ?hy7⟩) (by assumption) ?rest7
      case hy7 => (intro w hSw; (try dsimp only at hSw); go_simp; first | done | with_reducible rfl)
      try simp only [Act.put, List.getElem_toArray, List.getElem_cons_succ, List.getElem_cons_zero, List.setIfInBounds_toArray, List.set_cons_zero, List.set_cons_succ]
      refine wpAnyH_take (i := 7) (v := ?vv8) rfl (by kernel_rfl) (by kernel_rfl) (by kernel_rfl) (fun _ _ _ h => h) (Or.inl ⟨by rfl, ?hy8⟩) (by assumption) ?rest8
      case hy8 => (intro w hSw; (try dsimp only at hSw); go_simp; first | done | with_reducible rfl)
      try simp only [Act.put, List.getElem_toArray, List.getElem_cons_succ, List.getElem_cons_zero, List.setIfInBounds_toArray, List.set_cons_zero, List.set_cons_succ]
      refine wpAnyH_take (i := 8) (v := ?vv9) rfl (by kernel_rfl) (by kernel_rfl) (by kernel_rfl) (fun _ _ _ h => h) (Or.inl ⟨by rfl, ?hy9⟩) (by assumption) ?rest9
      case hy9 => (intro w hSw; (try dsimp only at hSw); go_simp; first | done | with_reducible rfl)
      try simp only [Act.put, List.getElem_toArray, List.getElem_cons_succ, List.getElem_cons_zero, List.setIfInBounds_toArray, List.set_cons_zero, List.set_cons_succ]
      refine wpAnyH_take (i := 9) (v := ?vv10) rfl (by kernel_rfl) (by kernel_rfl) (by kernel_rfl) (fun _ _ _ h => h) (Or.inl ⟨by rfl, ?hy10⟩) (by assumption) ?rest10
      case hy10 => (intro w hSw; (try dsimp only at hSw); go_simp; first | done | with_reducible rfl)
      try simp only [Act.put, List.getElem_toArray, List.getElem_cons_succ, List.getElem_cons_zero, List.setIfInBounds_toArray, List.set_cons_zero, List.set_cons_succ]
      refine wpAnyH_take (i := 10) (v := ?vv11) rfl (by kernel_rfl) (by kernel_rfl) (by kernel_rfl) (fun _ _ _ h => h) (Or.inl ⟨by rfl, ?hy11⟩) (by assumption) ?rest11
      case hy11 => (intro w hSw; (try dsimp only at hSw); go_simp; first | done | with_reducible rfl)
      try simp only [Act.put, List.getElem_toArray, List.getElem_cons_succ, List.getElem_cons_zero, List.setIfInBounds_toArray, List.set_cons_zero, List.set_cons_succ]
      refine wpAnyH_take (i := 11) (v := ?vv12) rfl (by kernel_rfl) (by kernel_rfl) (by kernel_rfl) (fun _ _ _ h => h) (Or.inl ⟨by rfl, ?hy12⟩) (by assumption) ?rest12
      case hy12 => (intro w hSw; (try dsimp only at hSw); go_simp; first | done | with_reducible rfl)
      try simp only [Act.put, List.getElem_toArray, List.getElem_cons_succ, List.getElem_cons_zero, List.setIfInBounds_toArray, List.set_cons_zero, List.set_cons_succ]
      refine wpAnyH_take (i := 12) (v := ?vv13) rfl (by kernel_rfl) (by kernel_rfl) (by kernel_rfl) (fun _ _ _ h => h) (Or.inl ⟨by rfl, ?hy13⟩) (by assumption) ?rest13
      case hy13 => (intro w hSw; (try dsimp only at hSw); go_simp; first | done | with_reducible rfl)
      try simp only [Act.put, List.getElem_toArray, List.getElem_cons_succ, List.getElem_cons_zero, List.setIfInBounds_toArray, List.set_cons_zero, List.set_cons_succ]
      refine wpAnyH_take (i := 13) (v := ?vv14) rfl (by kernel_rfl) (by kernel_rfl) (by kernel_rfl) (fun _ _ _ h => h) (Or.inl ⟨by rfl, ?hy14⟩) (by assumption) ?rest14
      case hy14 => (intro w hSw; (try dsimp only at hSw); go_simp; first | done | with_reducible rfl)
      try simp only [Act.put, List.getElem_toArray, List.getElem_cons_succ, List.getElem_cons_zero, List.setIfInBounds_toArray, List.set_cons_zero, List.set_cons_succ]
      refine wpAnyH_take (i := 14) (v := ?vv15) rfl (by kernel_rfl) (by kernel_rfl) (by kernel_rfl) (fun _ _ _ h => h) (Or.inl ⟨by rfl, ?hy15⟩) (by assumption) ?rest15
      case hy15 => (intro w hSw; (try dsimp only at hSw); go_simp; first | done | with_reducible rfl)
      try simp only [Act.put, List.getElem_toArray, List.getElem_cons_succ, List.getElem_cons_zero, List.setIfInBounds_toArray, List.set_cons_zero, List.set_cons_succ]
      refine wpAnyH_take (i := 15) (v := ?vv16) rfl (by kernel_rfl) (by kernel_rfl) (by kernel_rfl) (fun _ _ _ h => h) (Or.inl ⟨by rfl, ?hy16⟩) (by assumption) ?rest16
      case hy16 => (intro w hSw; (try dsimp only at hSw); go_simp; first | done | with_reducible rfl)
      try simp only [Act.put, List.getElem_toArray, List.getElem_cons_succ, List.getElem_cons_zero, List.setIfInBounds_toArray, List.set_cons_zero, List.set_cons_succ]
      refine wpAnyH_take (i := 16) (v := ?vv17) rfl (by kernel_rfl) (by kernel_rfl) (by kernel_rfl) (fun _ _ _ h => h) (Or.inl ⟨by rfl, ?hy17⟩) (by assumption) ?rest17
      case hy17 => (intro w hSw; (try dsimp only at hSw); go_simp; first | done | with_reducible rfl)
      try simp only [Act.put, List.getElem_toArray, List.getElem_cons_succ, List.getElem_cons_zero, List.setIfInBounds_toArray, List.set_cons_zero, List.set_cons_succ]
      refine wpAnyH_take (i := 17) (v := ?vv18) rfl (by kernel_rfl) (by kernel_rfl) (by kernel_rfl) (fun _ _ _ h => h) (Or.inl ⟨by rfl, ?hy18⟩) (by assumption) ?rest18
      case hy18 => (intro w hSw; (try dsimp only at hSw); go_simp; first | done | with_reducible rfl)
      try simp only [Act.put, List.getElem_toArray, List.getElem_cons_succ, List.getElem_cons_zero, List.setIfInBounds_toArray, List.set_cons_zero, List.set_cons_succ]
      refine wpAnyH_take (i := 18) (v := ?vv19) rfl (by kernel_rfl) (by kernel_rfl) (by kernel_rfl) (fun _ _ _ h => h) (Or.inl ⟨by rfl, ?hy19⟩) (by assumption) ?rest19
      case hy19 => (intro w hSw; (try dsimp only at hSw); go_simp; first | done | with_reducible rfl)
      try simp only [Act.put, List.getElem_toArray, List.getElem_cons_succ, List.getElem_cons_zero, List.setIfInBounds_toArray, List.set_cons_zero, List.set_cons_succ]
      refine wpAnyH_take (i := 19) (v := ?vv20) rfl (by kernel_rfl) (by kernel_rfl) (by kernel_rfl) (fun _ _ _ h => h) (Or.inl ⟨by rfl, ?hy20⟩) (by assumption) ?rest20
      case hy20 => (intro w hSw; (try dsimp only at hSw); go_simp; first | done | with_reducible rfl)
      try simp only [Act.put, List.getElem_toArray, List.getElem_cons_succ, List.getElem_cons_zero, List.setIfInBounds_toArray, List.set_cons_zero, List.set_cons_succ]
      refine wpAnyH_take (i := 20) (v := ?vv21) rfl (by kernel_rfl) (by kernel_rfl) (by kernel_rfl) (fun _ _ _ h => h) (Or.inl ⟨by rfl, ?hy21⟩) (by assumption) ?rest21
      case hy21 => (intro w hSw; (try dsimp only at hSw); go_simp; first | done | with_reducible rfl)
      try simp only [Act.put, List.getElem_toArray, List.getElem_cons_succ, List.getElem_cons_zero, List.setIfInBounds_toArray, List.set_cons_zero, List.set_cons_succ]
      refine wpAnyH_ready (rs := [21]) (by kernel_rfl) (by simp) ?_
      refine AllReadyH.cons rfl (fun K hK => ?_) AllReadyH.nil
      go_simp
      refine (CP.out _ KD.out).mono ?_
      rintro e w1 ⟨ad3, cap3, rfl, K1, O1, ZC1⟩
      go_wp2_with fail
      refine hK.out _ _ ZC1 (fun hHeld => ?_)
      clear hK K
      try simp only [Act.put, List.getElem_toArray, List.getElem_cons_succ, List.getElem_cons_zero, List.setIfInBounds_toArray, List.set_cons_zero, List.set_cons_succ]
      refine wpAnyH_take (i := 22) (v := ?vv22) rfl (by kernel_rfl) (by kernel_rfl) (by kernel_rfl) (fun _ _ _ h => h) (Or.inl ⟨by rfl, ?hy22⟩) (by assumption) ?rest22
      case hy22 => (intro w hSw; (try dsimp only at hSw); go_simp; first | done | with_reducible rfl)
      try simp only [Act.put, List.getElem_toArray, List.getElem_cons_succ, List.getElem_cons_zero, List.setIfInBounds_toArray, List.set_cons_zero, List.set_cons_succ]
      refine wpAnyH_ready (rs := [23]) (by kernel_rfl) (by simp) ?_
      refine AllReadyH.cons rfl (fun K hK => ?_) AllReadyH.nil
      go_simp
      refine hK.out _ _ (HCX.out _ (K1.out.trans (keep_alloc (fun _ => False) w1 (Obj.cells #[.int .i64 n, .int .i64 sz, .string sum, .slice ad3 pn cap3] 35)))) (fun hHeld => ?_)
      clear hK K
      try simp only [Act.put, List.getElem_toArray, List.getElem_cons_succ, List.getElem_cons_zero, List.setIfInBounds_toArray, List.set_cons_zero, List.set_cons_succ]
      refine wpAnyH_ready (rs := [24]) (by kernel_rfl) (by simp) ?_
      refine AllReadyH.cons rfl (fun K hK => ?_) AllReadyH.nil
      refine step_gappW (w0 := w1.alloc (Obj.cells #[.int .i64 n, .int .i64 sz, .string sum, .slice ad3 pn cap3] 35)) (by rfl) _ _ elRT (by rfl) w.heap.size (.slice ad1 k cp1) (.slice (some ⟨w1.heap.size, 0, none⟩) 1 1) PA (ptC (.slice ad3 pn cap3, ⟨n, sz, sum, ps⟩)) k 1 (k + 1) (by rfl) (Keep.refl _ _) (by rfl) (by rfl) (AP.out w1 ad3 cap3 _ K1.out rfl).1 (HBs.out _ _ K1.out) (AP.out w1 ad3 cap3 _ K1.out rfl).2 (HX2.out _ _) (HO1.out _ _) HLE.out HLB.out ?_
      intro ad' cap' w2 hr2 hk2
      obtain ⟨HR2, HK2⟩ := FIN.out _ _ ad3 cap3 ad' cap' K1.out O1.out hr2 hk2
      clear hr2 hk2
      have ZC2 := HCE.out _ HK2.out
      refine hK.out _ _ ZC2 (fun hHeld => ?_)
      clear hK K
      try simp only [Act.put, List.getElem_toArray, List.getElem_cons_succ, List.getElem_cons_zero, List.setIfInBounds_toArray, List.set_cons_zero, List.set_cons_succ]
      refine wpAnyH_take (i := 25) (v := ?vv23) rfl (by kernel_rfl) (by kernel_rfl) (by kernel_rfl) (fun _ _ _ h => h) (Or.inl ⟨by rfl, ?hy23⟩) (by assumption) ?rest23
      case hy23 => (intro w hSw; (try dsimp only at hSw); go_simp; first | done | with_reducible rfl)
      try simp only [Act.put, List.getElem_toArray, List.getElem_cons_succ, List.getElem_cons_zero, List.setIfInBounds_toArray, List.set_cons_zero, List.set_cons_succ]
      refine wpAnyH_done (by kernel_rfl) ?_ _
      clear AP FIN CP KA KD HBs hHeld HCE HCX c0 c1 c2 c3
      go_wp2
      exact ⟨⟨k + 1, _, _, _, HLT.out, rfl, by first | rw [hwk] | rfl | simp, HR2, HK2⟩, by (try rw [hwk]); have := HLT.out; simp [intOf]; omega⟩
    · have hke : k = q.length := by omega
      have hd : decide ((k : Int) < (q.length : Int)) = false := decide_eq_false (by omega)
      have hd2 : decide (k < q.length) = false := decide_eq_false hlt
      have HF : Hid (tqL q1 = tqL q ∧ OwnT wr w.heap.size 35 88 (.slice ad1 q.length cp1) q1) := by
        obtain ⟨_, h2, h3⟩ := HR.out
        rw [hke, HZ.out] at h2
        rw [hke] at h3
        exact ⟨h2, h3⟩
      have HKE := hid hke
      clear HC HTK HZ HR HL hke hlt hk HS
      go_wp2
      go_ret
      exact ⟨ad1, cp1, q1, by rw [HKE.out]; rfl, HF.out.1, HF.out.2, keep_below HK.out (fun _ _ h => h) (Nat.le_refl _)⟩
end Go.Proofs.Ytbiapepalkdkdab
