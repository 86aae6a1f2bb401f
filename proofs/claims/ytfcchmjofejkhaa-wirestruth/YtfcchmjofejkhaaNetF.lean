/- Packets that are lost: lose, Clear, Cut, Heal. -/
import Derived.Test.YtfcchmjofejkhaaNetE
namespace Go.Proofs.Ytfcchmjofejkhaa
open Go.RowKit Go.Maps
set_option linter.unusedVariables false
set_option linter.unusedSimpArgs false

/-- what a net is when the packets are lost that are told to go -/
def loseD (n : Net) (G : Pk → Bool) : Net := { n with L := n.L.filter (fun x => !G x), lo := n.lo + (n.L.length - (n.L.filter (fun x => !G x)).length) }
set_option maxRecDepth 100000 in
set_option maxHeartbeats 2000000 in
theorem lose_any (f : FuncId) (cv : Value) (G : Pk → Bool) (p : Nat) (P : Nat → Prop) (n : Net) (w : World) (hcf : ∀ xs W, (callFunc f xs).run Try.prog W = .ok (.enter f xs) W) (h : NetIs w P p n) (hlo : n.lo ≤ 1152921504606846976)
    (hf : ∀ x ∈ n.L, ∀ W, Keep (fun j => P j ∧ j ≠ p) w W → Calls Try.prog f #[pkV x, cv] W fun e w' => e = .returned (.bool (G x)) ∧ Keep (fun _ => False) W w') :
    Calls Try.prog 36 #[.pointer (some ⟨p, 0, none⟩), .func (.func f) #[] #[cv]] w fun e w' => e = .returned (.int .i64 ((n.L.length - (n.L.filter (fun x => !G x)).length : Nat) : Int)) ∧ NLeft w P p (loseD n G) w' := by
  obtain ⟨v, h⟩ := h
  obtain ⟨ad, cap, rfl⟩ := row_form h.own
  have DL := hid (delete_any f cv G n.L _ w hcf h.own (by have := h.ln; omega) (fun x hx W hW => hf x hx W (hW.mono (fun j _ e => h.vp j e))))
  have hp := h.lt
  have q0 := h.c0
  have H := hid h
  have hln := h.ln
  have hle : (n.L.filter (fun x => !G x)).length ≤ n.L.length := List.length_filter_le _ _
  obtain ⟨L', hL'⟩ : ∃ L', L' = n.L.filter (fun x => !G x) := ⟨_, rfl⟩
  have HND : Hid ((∀ x ∈ L', two x.fr x.tt = true) ∧ ∀ x ∈ L', x.s.size ≤ 140737488355328) := by
    rw [hL']
    exact ⟨fun x hx => h.nd x (List.mem_filter.1 hx).1, fun x hx => h.sz x (List.mem_filter.1 hx).1⟩
  have HRES : Hid (loseD n G = { n with L := L', lo := n.lo + (n.L.length - L'.length) }) := by show _ = _; rw [hL']; rfl
  rw [← hL'] at DL hle ⊢
  clear hL'
  have hw1 : wrap64 ((n.L.length : Int) - (L'.length : Int)) = ((n.L.length - L'.length : Nat) : Int) := by rw [IntWalk.wrap64_in _ (by omega)]; omega
  have hw2 : wrap64 ((n.lo : Int) + ((n.L.length - L'.length : Nat) : Int)) = (n.lo : Int) + ((n.L.length - L'.length : Nat) : Int) := IntWalk.wrap64_in _ (by omega)
  clear hf h hcf
  go_enter Try.func36, Try.ntmps36
  go_wp2_with fail
  refine DL.out.mono ?_
  rintro e w1 ⟨v', rfl, ho, hb, k1⟩
  obtain ⟨ad', cap', rfl⟩ := row_form ho
  have r1 := H.out.row.keep k1 (fun e => (H.out.vp p e).2 rfl)
  have e1 := r1.cellAt (o := 0) rfl
  have f1 := r1.frozen (o := 0)
  have hN := net_laid (w0 := w) H.out (Keep.refl _ _) ho k1 (fun g e => .inl (by rw [← hb]; exact e)) (by omega) HND.out.1 HND.out.2
  obtain ⟨P2, h2, hsub, hk2⟩ := hN
  have hc2 : (w1.setCell ⟨p, 0, none⟩ (.slice ad' L'.length cap')).cell? ⟨p, 0, none⟩ = some (.slice ad' L'.length cap') := ((r1.set 0 (.slice ad' L'.length cap')).cellAt (o := 0) rfl)
  obtain ⟨_, _, d52, fz2⟩ := h2.cells0
  have g52 := fz2 52
  have FIN : Hid (NLeft w P p { n with L := L', lo := n.lo + (n.L.length - L'.length) } ((w1.setCell ⟨p, 0, none⟩ (.slice ad' L'.length cap')).setCell ⟨p, 52, none⟩ (.int .i64 ((n.lo : Int) + ((n.L.length - L'.length : Nat) : Int))))) := by
    obtain ⟨P3, h3, hs3, hk3⟩ := h2.lo (n.L.length - L'.length)
    exact ⟨P3, h3, fun j hj hh => hsub j hj (hs3 j (Nat.lt_of_lt_of_le hj hk2.size) hh), hk2.then hk3 (fun j hj hh => hsub j hj hh)⟩
  simp only at d52
  clear h2 hsub hk2 fz2 r1 ho hb k1 DL H HND
  have HCS : Hid (((n.L.length - L'.length : Nat) : Int) = (n.L.length : Int) - (L'.length : Int)) := by show _ = _; omega
  rw [HCS.out] at FIN
  go_wp2
  go_ret
  exact ⟨by rw [HCS.out]; rfl, by rw [HRES.out]; exact FIN.out⟩
set_option maxRecDepth 100000 in
theorem clear1_any (q : Nat) (node : Int) (x : Pk) (w : World) (hq : w.cell? ⟨q, 0, none⟩ = some (.int .i64 node)) : Calls Try.prog 39 #[pkV x, .pointer (some ⟨q, 0, none⟩)] w fun e w' => e = .returned (.bool (x.tt == node)) ∧ Keep (fun _ => False) w w' := by
  have hqs : q < w.heap.size := World.block_lt_of_cell? _ _ hq
  obtain ⟨fr, tt, s⟩ := x
  unfold pkV
  simp only
  have h1 := ((keep_alloc (fun _ => False) w (.cells #[.int .i64 fr, .int .i64 tt, .string s] 33)).cell hqs (fun h => h)).trans hq
  go_enter Try.func39, Try.ntmps39
  go_wp2
  go_ret
  exact ⟨by first | rfl | simp, keep_alloc _ _ _⟩
set_option maxRecDepth 100000 in
theorem cut1_any (q p : Nat) (P : Nat → Prop) (n : Net) (x : Pk) (w : World) (hq : w.cell? ⟨q, 0, none⟩ = some (.pointer (some ⟨p, 0, none⟩))) (ct : List Bool) (hc : two x.fr x.tt = true → w.cell? ⟨p, 1 + x.fr.toNat * 7 + x.tt.toNat, none⟩ = some (.bool (cutAt ct x.fr x.tt))) (ht : two x.fr x.tt = true) : Calls Try.prog 37 #[pkV x, .pointer (some ⟨q, 0, none⟩)] w fun e w' => e = .returned (.bool (cutAt ct x.fr x.tt)) ∧ Keep (fun _ => False) w w' := by
  have hqs : q < w.heap.size := World.block_lt_of_cell? _ _ hq
  have hc' := hc ht
  have hps : p < w.heap.size := World.block_lt_of_cell? _ _ hc'
  obtain ⟨fr, tt, s⟩ := x
  unfold pkV
  simp only at *
  obtain ⟨b1, b2, b3, b4, _⟩ := two_bounds ht
  have ka := keep_alloc (fun _ => False) w (.cells #[.int .i64 fr, .int .i64 tt, .string s] 33)
  have h1 := (ka.cell hqs (fun h => h)).trans hq
  have h2 := (ka.cell hps (fun h => h)).trans hc'
  generalize cutAt ct fr tt = b at *
  clear hc ka hc' hq
  go_enter Try.func37, Try.ntmps37
  go_wp2
  go_quiet (fail)
  go_wp2
  go_ret
  exact ⟨rfl, (keep_alloc _ _ _).trans (nkeep_drewN _ _)⟩
set_option maxRecDepth 100000 in
set_option maxHeartbeats 1000000 in
theorem nclear_any (p : Nat) (P : Nat → Prop) (n : Net) (node : Int) (w : World) (h : NetIs w P p n) (hlo : n.lo ≤ 1152921504606846976) :
    Calls Try.prog 23 #[.pointer (some ⟨p, 0, none⟩), .int .i64 node] w fun e w' => e = .returned (.int .i64 ((n.L.length - (n.L.filter (fun x => !(x.tt == node))).length : Nat) : Int)) ∧ NLeft w P p (loseD n (fun x => x.tt == node)) w' := by
  have ka := keep_alloc (fun _ => False) w (.cells #[.int .i64 node] 3)
  have h1 := h.keep ka (fun _ _ h => h.elim)
  have r1 : RowIs (w.alloc (.cells #[.int .i64 node] 3)) w.heap.size [.int .i64 node] 3 := heap_alloc_new _ _
  have LS := hid (lose_any 39 (.pointer (some ⟨w.heap.size, 0, none⟩)) (fun x => x.tt == node) p _ n _ (fun xs W => Try.call39 xs W) h1 hlo (fun x hx W hW => clear1_any w.heap.size node x W ((r1.keep hW (fun e => by have := e.1.2; omega)).cellAt rfl)))
  have FIN : Hid (∀ n' w', NLeft (w.alloc (.cells #[.int .i64 node] 3)) (fun j => P j ∧ j < w.heap.size) p n' w' → NLeft w P p n' w') := fun n' w' hN => hN.weak ka (fun j _ hq => hq.1)
  clear h h1 r1 ka
  go_enter Try.func23, Try.ntmps23
  go_wp2_with fail
  refine LS.out.mono ?_
  rintro e w1 ⟨rfl, hN⟩
  have HN := hid (FIN.out _ _ hN)
  clear hN FIN LS
  go_wp2
  go_ret
  exact ⟨rfl, HN.out⟩
set_option maxRecDepth 100000 in
theorem ncut_none (p : Nat) (a b : Int) (w : World) (ht : two a b = false) :
    Calls Try.prog 18 #[.pointer (some ⟨p, 0, none⟩), .int .i64 a, .int .i64 b] w fun e w' => e = .returned (.int .i64 0) ∧ Keep (fun _ => False) w w' := by
  have AT := hid (fun W => areTwo_any a b W)
  rw [ht] at AT
  clear ht
  go_enter Try.func18, Try.ntmps18
  go_wp2_with fail
  refine (AT.out _).mono ?_
  rintro e w1 ⟨rfl, rfl⟩
  go_wp2
  go_ret
  exact ⟨rfl, keep_alloc _ _ _⟩
/-- which ways are cut when two nodes are -/
def cutC (ct : List Bool) (a b : Int) : List Bool := (ct.set (7 * a.toNat + b.toNat) true).set (7 * b.toNat + a.toNat) true
theorem cutC_len (ct : List Bool) (a b : Int) : (cutC ct a b).length = ct.length := by simp [cutC]
set_option maxRecDepth 100000 in
set_option maxHeartbeats 2000000 in
theorem ncut_some (p : Nat) (P : Nat → Prop) (n : Net) (a b : Int) (w : World) (h : NetIs w P p n) (hlo : n.lo ≤ 1152921504606846976) (ht : two a b = true) :
    Calls Try.prog 18 #[.pointer (some ⟨p, 0, none⟩), .int .i64 a, .int .i64 b] w fun e w' => e = .returned (.int .i64 ((n.L.length - (n.L.filter (fun x => !cutAt (cutC n.ct a b) x.fr x.tt)).length : Nat) : Int)) ∧ NLeft w P p (loseD { n with ct := cutC n.ct a b } (fun x => cutAt (cutC n.ct a b) x.fr x.tt)) w' := by
  have AT := hid (fun W => areTwo_any a b W)
  rw [ht] at AT
  obtain ⟨b1, b2, b3, b4, b5⟩ := two_bounds ht
  have HH := hid h
  obtain ⟨v, hv⟩ := h
  have hp := hv.lt
  have r0 := hv.row
  have c1 := r0.cellAt (netC_ct v n (7 * a.toNat + b.toNat) hv.ct (by omega))
  have c2 := r0.cellAt (netC_ct v n (7 * b.toNat + a.toNat) hv.ct (by omega))
  rw [show 7 * a.toNat + b.toNat + 1 = 1 + a.toNat * 7 + b.toNat by omega] at c1
  rw [show 7 * b.toNat + a.toNat + 1 = 1 + b.toNat * 7 + a.toNat by omega] at c2
  have f1 := r0.frozen (o := 1 + a.toNat * 7 + b.toNat)
  have f2 := r0.frozen (o := 1 + b.toNat * 7 + a.toNat)
  have rq : RowIs (w.alloc (.cells #[.pointer (some ⟨p, 0, none⟩)] 23)) w.heap.size [.pointer (some ⟨p, 0, none⟩)] 23 := heap_alloc_new _ _
  have q1 := rq.cellAt (o := 0) rfl
  clear rq
  have HN2 : Hid (NLeft w P p { n with ct := cutC n.ct a b } ((w.setCell ⟨p, 1 + a.toNat * 7 + b.toNat, none⟩ (.bool true)).setCell ⟨p, 1 + b.toNat * 7 + a.toNat, none⟩ (.bool true))) := by
    have s1 := hv.setRow (o := 1 + a.toNat * 7 + b.toNat) (u := .bool true) (n' := { n with ct := n.ct.set (7 * a.toNat + b.toNat) true }) (by rw [show 1 + a.toNat * 7 + b.toNat = (7 * a.toNat + b.toNat) + 1 by omega]; exact netC_setct v n _ true hv.ct (by omega)) rfl (by simp [hv.ct])
    refine s1.step fun P1 h1 => ?_
    obtain ⟨v1, hv1⟩ := h1
    exact hv1.setRow (o := 1 + b.toNat * 7 + a.toNat) (u := .bool true) (n' := { n with ct := cutC n.ct a b }) (by rw [show 1 + b.toNat * 7 + a.toNat = (7 * b.toNat + a.toNat) + 1 by omega]; exact netC_setct v1 _ _ true hv1.ct (by omega)) rfl (by rw [cutC_len]; exact hv.ct)
  have HZ : Hid (((w.setCell ⟨p, 1 + a.toNat * 7 + b.toNat, none⟩ (.bool true)).setCell ⟨p, 1 + b.toNat * 7 + a.toNat, none⟩ (.bool true)).heap.size = w.heap.size) := by show _ = _; simp [World.setCell]
  clear r0 hv HH
  go_enter Try.func18, Try.ntmps18
  go_wp2_with fail
  refine (AT.out _).mono ?_
  rintro e w1 ⟨rfl, rfl⟩
  clear AT
  go_wp2
  go_region
  clear c1 c2 f1 f2 q1
  generalize (w.setCell ⟨p, 1 + a.toNat * 7 + b.toNat, none⟩ (.bool true)).setCell ⟨p, 1 + b.toNat * 7 + a.toNat, none⟩ (.bool true) = w2 at *
  have hz := HZ.out
  have ka : Keep (fun _ => False) w2 (w2.alloc (.cells #[.pointer (some ⟨p, 0, none⟩)] 23)).drew := (keep_alloc _ _ _).trans (keep_drew _ _)
  have rq : RowIs (w2.alloc (.cells #[.pointer (some ⟨p, 0, none⟩)] 23)).drew w.heap.size [.pointer (some ⟨p, 0, none⟩)] 23 := by
    rw [← hz]; exact heap_alloc_new _ _
  obtain ⟨P2, h2, hsub, hk2⟩ := HN2.out
  have h3 := h2.keep ka (fun _ _ h => h.elim)
  have LS := hid (lose_any 37 (.pointer (some ⟨w.heap.size, 0, none⟩)) (fun x => cutAt (cutC n.ct a b) x.fr x.tt) p _ _ _ (fun xs W => Try.call37 xs W) h3 hlo (fun x hx W hW => by
    obtain ⟨v3, hv3⟩ := h3
    have htx := hv3.nd x hx
    have rp := hv3.row.keep hW (fun e => e.2 rfl)
    refine cut1_any w.heap.size p (fun _ => True) n x W ((rq.keep hW (fun e => by have := e.1.2; omega)).cellAt rfl) (cutC n.ct a b) (fun _ => ?_) htx
    have hb := two_bounds htx
    rw [show 1 + x.fr.toNat * 7 + x.tt.toNat = (7 * x.fr.toNat + x.tt.toNat) + 1 by omega]
    exact rp.cellAt (netC_ct v3 _ _ hv3.ct (by omega))))
  have FIN : Hid (∀ n' w', NLeft (w2.alloc (.cells #[.pointer (some ⟨p, 0, none⟩)] 23)).drew (fun j => P2 j ∧ j < w2.heap.size) p n' w' → NLeft w P p n' w') := fun n' w' ⟨P3, g1, g2, g3⟩ =>
    ⟨P3, g1, fun j hj hp3 => hsub j hj (g2 j (Nat.lt_of_lt_of_le hj (Nat.le_trans hk2.size ka.size)) hp3).1, (hk2.trans (ka.mono (fun _ _ h => h.elim))).then g3 (fun j hj hq => hsub j hj hq.1)⟩
  have q2 := rq.cellAt (o := 0) rfl
  clear h3 h2 hsub hk2 ka rq HN2 HZ hz
  generalize (w2.alloc (.cells #[.pointer (some ⟨p, 0, none⟩)] 23)).drew = w4 at *
  go_wp2_with fail
  refine LS.out.mono ?_
  rintro e w5 ⟨rfl, hN⟩
  have HN := hid (FIN.out _ _ hN)
  clear hN FIN LS
  go_wp2
  go_ret
  exact ⟨rfl, HN.out⟩
end Go.Proofs.Ytfcchmjofejkhaa
