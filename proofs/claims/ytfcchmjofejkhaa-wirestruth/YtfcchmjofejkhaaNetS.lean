/- A net's calls: New, Counts, At, Send, Double, Heal. -/
import Derived.Test.YtfcchmjofejkhaaNetL
import Derived.Deep.QuietTactic
import Derived.BigQuiet
namespace Go.Proofs.Ytfcchmjofejkhaa
open Go.RowKit Go.Maps
set_option linter.unusedVariables false
set_option linter.unusedSimpArgs false

theorem nkeep_drewN (w : World) (n : Nat) : Keep (fun _ => False) w (w.drewN n) := (below_drewN (Below.refl w.heap.size w) n).keep _
set_option maxRecDepth 100000 in
theorem new_net (w : World) : Calls Try.prog 9 #[] w fun e w' => e = .returned (.pointer (some ⟨w.heap.size, 0, none⟩)) ∧ Keep (fun _ => False) w w' ∧ NetIs w' (fun j => w.heap.size ≤ j) w.heap.size net0 := by
  go_enter Try.func9, Try.ntmps9
  go_wp2
  go_ret
  refine ⟨rfl, keep_alloc _ _ _, ⟨.slice none 0 0, ?_, Nat.le_refl _, ?_, ?_, by decide, rfl, by intro x hx; simp [net0] at hx, by intro x hx; simp [net0] at hx⟩⟩
  · exact heap_alloc_new _ _
  · exact ⟨rfl, .inl ⟨rfl, rfl⟩⟩
  · intro g e; simp [Value.ownBlock] at e
set_option maxRecDepth 100000 in
theorem counts_any (p : Nat) (P : Nat → Prop) (n : Net) (w : World) (h : NetIs w P p n) : Calls Try.prog 17 #[.pointer (some ⟨p, 0, none⟩)] w fun e w' => e = .returned (.tuple #[.int .i64 n.se, .int .i64 n.ta, .int .i64 n.lo]) ∧ Keep (fun _ => False) w w' := by
  obtain ⟨v, h⟩ := h
  have c1 := h.row.cellAt (netC_50 v n h.ct)
  have c2 := h.row.cellAt (netC_51 v n h.ct)
  have c3 := h.row.cellAt (netC_52 v n h.ct)
  clear h
  go_enter Try.func17, Try.ntmps17
  go_wp2
  go_quiet (fail)
  go_wp2
  go_ret3
  exact ⟨rfl, nkeep_drewN _ _⟩
set_option maxRecDepth 100000 in
theorem counts_nil (w : World) : Calls Try.prog 17 #[.pointer none] w fun e w' => e = .returned (.tuple #[.int .i64 0, .int .i64 0, .int .i64 0]) ∧ w' = w := by
  go_enter Try.func17, Try.ntmps17
  go_wp2
  go_ret3
  exact ⟨rfl, rfl⟩
def pk0 : Pk := ⟨0, 0, ⟨#[]⟩⟩
set_option maxRecDepth 100000 in
theorem at_none (pv : Value) (i : Int) (w : World) (h : ∀ W, Keep (fun _ => False) w W → Calls Try.prog 34 #[pv, .int .i64 i] W fun e w' => e = .returned (.bool false) ∧ w' = W) : Calls Try.prog 20 #[pv, .int .i64 i] w fun e w' => e = .returned (.tuple #[pkV pk0, .bool false]) ∧ Keep (fun _ => False) w w' := by
  have HH := hid h
  clear h
  go_enter Try.func20, Try.ntmps20
  go_wp2_with fail
  refine (HH.out _ (keep_alloc _ _ _)).mono ?_
  rintro e w1 ⟨rfl, rfl⟩
  have rr : RowIs (w.alloc (.cells #[.int .i64 0, .int .i64 0, .string ⟨#[]⟩] 33)) w.heap.size [.int .i64 0, .int .i64 0, .string ⟨#[]⟩] 33 := heap_alloc_new _ _
  have HS := hid rr
  clear HH rr
  go_wp2
  refine bodyPost_ret (v := .tuple #[.agg #[.int .i64 0, .int .i64 0, .string ⟨#[]⟩], .bool false]) (npk_cell_tmp (p := 4) (u := 5) rfl _ _ w.heap.size _ _ rfl rfl (run_loadVar_row _ _ _ _ _ _ _ HS.out Try.underlying33 rfl (by kernel_rfl))) rfl ⟨rfl, ?_⟩
  exact keep_alloc _ _ _
theorem NetR.cells {w : World} {P : Nat → Prop} {p : Nat} {v : Value} {n : Net} (h : NetR w P p v n) (k : Nat) (hk : k < n.L.length) : ∃ g cap, v = .slice (some ⟨g, 0, none⟩) n.L.length cap ∧ g < w.heap.size ∧ w.cell? ⟨g, k * 3, none⟩ = some (.int .i64 n.L[k].fr) ∧ w.cell? ⟨g, k * 3 + 1, none⟩ = some (.int .i64 n.L[k].tt) ∧ w.cell? ⟨g, k * 3 + 2, none⟩ = some (.string n.L[k].s) := by
  rcases h.own.2 with ⟨e, h0⟩ | ⟨g, cap, cur, e, hg, hb, r⟩
  · omega
  · subst e
    refine ⟨g, cap, rfl, (Array.getElem?_eq_some_iff.1 hb).1, grow_at h.own (pks_get n.L k hk 0 (by omega)), grow_at h.own (pks_get n.L k hk 1 (by omega)), grow_at h.own (pks_get n.L k hk 2 (by omega))⟩
set_option maxRecDepth 100000 in
theorem at_some (p : Nat) (P : Nat → Prop) (n : Net) (k : Nat) (hk : k < n.L.length) (w : World) (h : NetIs w P p n) : Calls Try.prog 20 #[.pointer (some ⟨p, 0, none⟩), .int .i64 (k : Int)] w fun e w' => e = .returned (.tuple #[pkV n.L[k], .bool true]) ∧ Keep (fun _ => False) w w' := by
  have HH : Hid (∀ W, Keep (fun _ => False) w W → Calls Try.prog 34 #[.pointer (some ⟨p, 0, none⟩), .int .i64 (k : Int)] W fun e w' => e = .returned (.bool true) ∧ w' = W) := fun W hW => by
    have h1 := nhas_any p _ n k W (h.keep hW (fun _ _ h => h.elim))
    rwa [show hasI n.L.length (k : Int) = true by simp [hasI]; omega] at h1
  obtain ⟨v, h⟩ := h
  have HC := hid (fun W => copied_any n.L[k] W (h.sz _ (List.getElem_mem hk)))
  have q0 := h.c0
  have hp := h.lt
  obtain ⟨g, cap, rfl, hg, x0, x1, x2⟩ := h.cells k hk
  generalize n.L[k] = x at *
  obtain ⟨fr, tt, s⟩ := x
  unfold pkV at *
  simp only at *
  have hk0 : (0 : Int) ≤ (k : Int) := by omega
  have hk1 : (k : Int) < (n.L.length : Int) := by omega
  have ka : Keep (fun _ => False) w (w.alloc (.cells #[.int .i64 0, .int .i64 0, .string ⟨#[]⟩] 33)) := keep_alloc _ _ _
  have a0 := (ka.cell hp (fun h => h)).trans q0
  have b0 := (ka.cell hg (fun h => h)).trans x0
  have b1 := (ka.cell hg (fun h => h)).trans x1
  have b2 := (ka.cell hg (fun h => h)).trans x2
  clear ka h x0 x1 x2 q0
  go_enter Try.func20, Try.ntmps20
  go_wp2_with fail
  refine (HH.out _ (keep_alloc _ _ _)).mono ?_
  rintro e w1 ⟨rfl, rfl⟩
  clear HH
  go_wp2_with fail
  refine (HC.out _).mono ?_
  rintro e w1 ⟨rfl, hb⟩
  have rr0 : RowIs (w.alloc (.cells #[.int .i64 0, .int .i64 0, .string ⟨#[]⟩] 33)) w.heap.size [.int .i64 0, .int .i64 0, .string ⟨#[]⟩] 33 := heap_alloc_new _ _
  have kb := hb.keep (fun _ => False)
  have rr := rr0.keep kb (fun h => h)
  have HS := hid (three (v0 := .int .i64 fr) (v1 := .int .i64 tt) (v2 := .string s) rr)
  have HK := hid ((keep_alloc (fun _ => False) w (.cells #[.int .i64 0, .int .i64 0, .string ⟨#[]⟩] 33)).trans kb)
  have z0 := rr.cellAt (o := 0) rfl
  have z1 := rr.cellAt (o := 1) rfl
  have z2 := rr.cellAt (o := 2) rfl
  have g0 := rr.frozen (o := 0)
  have g1 := rr.frozen (o := 1)
  have g2 := rr.frozen (o := 2)
  clear HC rr rr0 kb hb a0 b0 b1 b2
  go_wp2
  refine bodyPost_ret (v := .tuple #[.agg #[.int .i64 fr, .int .i64 tt, .string s], .bool true]) (npk_cell_tmp (p := 4) (u := 5) rfl _ _ w.heap.size _ _ rfl rfl (run_loadVar_row _ _ _ _ _ _ _ HS.out.1 Try.underlying33 rfl (by kernel_rfl))) rfl ⟨rfl, ?_⟩
  exact HK.out.then HS.out.2 (fun j hj e => by omega)
end Go.Proofs.Ytfcchmjofejkhaa
