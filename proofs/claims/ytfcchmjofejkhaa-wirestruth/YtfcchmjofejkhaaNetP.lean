/- A packet leaves its list: pull, Take, Drop. -/
import Derived.Test.YtfcchmjofejkhaaNetC
namespace Go.Proofs.Ytfcchmjofejkhaa
open Go.RowKit Go.Maps
set_option linter.unusedVariables false
set_option linter.unusedSimpArgs false

/-- packets but one -/
def outL (L : List Pk) (k : Nat) : List Pk := L.take k ++ L.drop (k + 1)
theorem outL_len {L : List Pk} {k : Nat} (hk : k < L.length) : (outL L k).length = L.length - 1 := by simp [outL]; omega
theorem outL_mem {L : List Pk} {k : Nat} {x : Pk} (h : x ∈ outL L k) : x ∈ L := by
  rcases List.mem_append.1 h with h | h
  · exact List.mem_of_mem_take h
  · exact List.mem_of_mem_drop h
set_option maxRecDepth 100000 in
set_option maxHeartbeats 2000000 in
theorem pull_any (p : Nat) (P : Nat → Prop) (n : Net) (k : Nat) (hk : k < n.L.length) (w : World) (h : NetIs w P p n) :
    Calls Try.prog 35 #[.pointer (some ⟨p, 0, none⟩), .int .i64 (k : Int)] w fun e w' => e = .returned (pkV n.L[k]) ∧ NLeft w P p { n with L := outL n.L k } w' := by
  obtain ⟨v, h⟩ := h
  have H := hid h
  have hp := h.lt
  have q0 := h.c0
  obtain ⟨g, cap, rfl, hg, x0, x1, x2⟩ := h.cells k hk
  obtain ⟨xA, hA, hsA⟩ := gsrc_to ElPk h.own k (by omega)
  obtain ⟨xB, hB, hsB⟩ := gsrc_from ElPk h.own (k + 1) (by omega)
  rw [pks_take] at hA
  rw [pks_drop] at hB
  have hsB2 : ∀ W : World, (Instr.slice 44 (.slice (some ⟨g, 0, none⟩) n.L.length cap) (some (.int .i64 ((k : Int) + 1))) none none).run Try.prog W = .ok xB W := hsB
  clear hsB
  obtain ⟨adA, capA, eA⟩ := gsrc_form hA
  obtain ⟨adB, capB, eB⟩ := gsrc_form hB
  have hln := h.ln
  have hwk : wrap64 ((k : Int) + 1) = (k : Int) + 1 := IntWalk.wrap64_in _ (by omega)
  have hwk2 : IntKind.i64.wrap ((k : Int) + 1) = (k : Int) + 1 := by rw [IntKind.wrap_i64]; omega
  have hk0 : (0 : Int) ≤ (k : Int) := by omega
  have hk1 : (k : Int) < (n.L.length : Int) := by omega
  have CC : Hid (∀ W W', Keep (fun _ => False) w W → Keep (fun _ => False) (W.alloc (.cells #[xA, xB] 44)) W' → Calls Try.prog 43 #[.slice (some ⟨W.heap.size, 0, none⟩) 2 2] W' fun e w' => ∃ ad cap', e = .returned (.slice ad (n.L.length - 1) cap') ∧ (w'.cell? ⟨p, 0, none⟩ = some (.slice (some ⟨g, 0, none⟩) n.L.length cap) ∧ w'.frozen? ⟨p, 0, none⟩ = false) ∧ Hid (Keep (fun _ => False) W w') ∧ Hid (NetR (w'.setCell ⟨p, 0, none⟩ (.slice ad (n.L.length - 1) cap')) (Own2 p (.slice ad (n.L.length - 1) cap')) p (.slice ad (n.L.length - 1) cap') { n with L := outL n.L k } ∧ Keep P w (w'.setCell ⟨p, 0, none⟩ (.slice ad (n.L.length - 1) cap')) ∧ ∀ g, (Value.slice ad (n.L.length - 1) cap').ownBlock = some g → W.heap.size ≤ g)) := fun W W' hW hW' => by
    have ka := hW.trans ((keep_alloc (fun _ => False) W (.cells #[xA, xB] 44)).trans hW')
    have rb0 : RowIs (W.alloc (.cells #[xA, xB] 44)) W.heap.size [xA, xB] 44 := heap_alloc_new _ _
    have rb := rb0.keep hW' (fun h => h)
    refine (concat_two W.heap.size k (n.L.length - (k + 1)) xA xB (n.L.take k) (n.L.drop (k + 1)) _ (rb.cellAt rfl) (rb.cellAt rfl) (hA.keep _ ka (fun _ _ h => h)) (hB.keep _ ka (fun _ _ h => h)) (by simp; omega) (by simp) (by omega) (by omega)).mono ?_
    rintro e w' ⟨ad, cap', rfl, ho, hk'⟩
    have e1 : k + (n.L.length - (k + 1)) = n.L.length - 1 := by omega
    rw [e1] at ho ⊢
    have kk := ka.trans hk'
    have r := H.out.row.keep kk (fun h => h)
    have h9 := net_laid2 (w0 := w') (w2 := w') (L' := outL n.L k) H.out kk (by rw [outL_len hk]; exact ownsRow_base ho (Nat.zero_le _)) (Keep.refl _ _) (fun g e => .inr (Nat.le_trans ka.size (ownsRow_ge ho e))) (by rw [outL_len hk]; have := H.out.ln; omega) (fun x hx => H.out.nd x (outL_mem hx)) (fun x hx => H.out.sz x (outL_mem hx))
    exact ⟨ad, cap', rfl, ⟨r.cellAt rfl, r.frozen⟩, ((keep_alloc _ _ _).trans hW').trans hk', h9.1, h9.2.1, fun g e => Nat.le_trans ((keep_alloc (fun _ => False) W _).trans hW').size (ownsRow_ge ho e)⟩
  generalize n.L[k] = x at *
  obtain ⟨fr, tt, s⟩ := x
  unfold pkV at *
  simp only at *
  clear h hA hB
  go_enter Try.func35, Try.ntmps35
  go_wp2
  have hsz : (w.alloc (.cells #[.int .i64 0, .int .i64 0, .string ⟨#[]⟩] 33)).heap.size = w.heap.size + 1 := by simp
  have kB : Keep (fun _ => False) w ((w.alloc (.cells #[.int .i64 0, .int .i64 0, .string ⟨#[]⟩] 33)).alloc (.cells #[.int .i64 fr, .int .i64 tt, .string s] 33)) := (keep_alloc _ _ _).trans (keep_alloc _ _ _)
  have rz : RowIs ((w.alloc (.cells #[.int .i64 0, .int .i64 0, .string ⟨#[]⟩] 33)).alloc (.cells #[.int .i64 fr, .int .i64 tt, .string s] 33)) w.heap.size [.int .i64 0, .int .i64 0, .string ⟨#[]⟩] 33 := RowIs.keep (heap_alloc_new _ _) (keep_alloc (fun _ => False) _ _) (fun h => h)
  have rx : RowIs ((w.alloc (.cells #[.int .i64 0, .int .i64 0, .string ⟨#[]⟩] 33)).alloc (.cells #[.int .i64 fr, .int .i64 tt, .string s] 33)) (w.heap.size + 1) [.int .i64 fr, .int .i64 tt, .string s] 33 := by rw [← hsz]; exact heap_alloc_new _ _
  generalize (w.alloc (.cells #[.int .i64 0, .int .i64 0, .string ⟨#[]⟩] 33)).alloc (.cells #[.int .i64 fr, .int .i64 tt, .string s] 33) = wB at *
  have d0 := (kB.cell hp (fun h => h)).trans q0
  have HKB2 : Hid (w.heap.size + 1 < wB.heap.size) := rx.lt
  have HRZ := hid rz
  have HRX := hid rx
  have C1 := hid (CC.out wB _ kB (keep_drew _ _))
  have C2 := hid (CC.out wB _ kB (Keep.refl _ _))
  have HPP := hid H.out.pp
  clear hsz kB rz rx x0 x1 x2 q0 CC hg H
  subst eA eB
  go_region_law (go_simp; go_at_call 43; (first | with_reducible (refine C1.out.mono ?_) | with_reducible (refine C2.out.mono ?_)); rintro e w3 ⟨ad3, cap3, rfl, ⟨e3, f3⟩, hk3, hN3⟩; go_simp)
  all_goals
    have hk3' := hk3.out
    have rz3 := HRZ.out.keep hk3' (fun h => h)
    have rx3 := HRX.out.keep hk3' (fun h => h)
    have rz4 := rz3.keep (keep_setCell w3 p 0 (.slice ad3 (n.L.length - 1) cap3)) (fun e => by omega)
    have rx4 := rx3.keep (keep_setCell w3 p 0 (.slice ad3 (n.L.length - 1) cap3)) (fun e => by omega)
    clear rz3 rx3 hk3 hk3' e3 f3 d0 HRZ HRX C1 C2 hsA hsB2
    generalize w3.setCell ⟨p, 0, none⟩ (.slice ad3 (n.L.length - 1) cap3) = w5 at *
    have HS := hid (three (v0 := .int .i64 fr) (v1 := .int .i64 tt) (v2 := .string s) rz4)
    have u0 := rx4.cellAt (o := 0) rfl
    have u1 := rx4.cellAt (o := 1) rfl
    have u2 := rx4.cellAt (o := 2) rfl
    have z0 := rz4.cellAt (o := 0) rfl
    have z1 := rz4.cellAt (o := 1) rfl
    have z2 := rz4.cellAt (o := 2) rfl
    have g0 := rz4.frozen (o := 0)
    have g1 := rz4.frozen (o := 1)
    have g2 := rz4.frozen (o := 2)
    clear rz4 rx4
    go_wp2
    refine bodyPost_ret (v := .agg #[.int .i64 fr, .int .i64 tt, .string s]) (npk_cell (p := 4) rfl _ _ w.heap.size _ rfl (run_loadVar_row _ _ _ _ _ _ _ HS.out.1 Try.underlying33 rfl (by kernel_rfl))) rfl ⟨rfl, ?_⟩
    obtain ⟨n1, n2, n3⟩ := hN3.out
    have hsB := HKB2.out
    refine (n1.keepR HS.out.2 (by omega) (fun e => by have := n3 _ e; omega)).left HPP.out (fun g e hg => by have := n3 _ e; omega) (n2.then HS.out.2 (fun j hj e => by omega))
end Go.Proofs.Ytfcchmjofejkhaa
