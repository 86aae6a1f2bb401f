/- The latest version, and a version by its number: the program. -/
import Derived.Test.YtbiapepalkdkdaaCvK
import Derived.Laws.ResultCell
namespace Go.Proofs.Ytbiapepalkdkdaa
open Go.RowKit Go.Maps
set_option linter.unusedVariables false
set_option linter.unusedSimpArgs false

theorem ret_vt {fn : Func} {p u : Tmp} {ty : TypeId} (h : fn.results = #[.cell p ty, .tmp u]) (tmps : Array Value) (w : World) (g : Nat) (cs : Array Value) (x : Value)
    (hp : tmps.getD p undef = .pointer (some ⟨g, 0, none⟩)) (hx : tmps.getD u undef = x) (hg : (loadVar ty ⟨g, 0, none⟩).run Try.prog w = .ok (.agg cs) w) :
    (results fn tmps).run Try.prog w = .ok (.tuple #[.agg cs, x]) w := by
  rw [results_cell_tmp h, hp, hx]
  simp [asAddr, hg, Result.andThen]
def vn0 : Vn := ⟨0, false, 0, ⟨#[]⟩, []⟩
def latE (l : List Vn) : Int := if isCh l = true then (match l with | [] => 4 | v :: _ => if v.ma = true then 130 else 0) else 1
def latV (l : List Vn) : Vn := if isCh l = true then (match l with | [] => vn0 | v :: _ => if v.ma = true then vn0 else v) else vn0
def fdV (l : List Vn) (n : Int) : Vn := match plO l n with | some j => l.getD j vn0 | none => vn0
/-- a call that gives a version and an error -/
def GiveO (w : World) (x : Vn) (n : Int) (e : Ending) (w' : World) : Prop := ∃ ad cap, e = .returned (.tuple #[vnV (.slice ad x.ps.length cap, x), .int .i64 n]) ∧ PcI w' (.slice ad x.ps.length cap) x.ps ∧ Below w.heap.size w w'
/-- the five cells of a box -/
theorem Bx.may {w W : World} {g : Nat} {t : TypeId} {z0 z1 z2 z3 z4 : Value} (h : Bx w g [z0, z1, z2, z3, z4] t W) : (W.cell? ⟨g, 0, none⟩ = some z0 ∧ W.cell? ⟨g, 1, none⟩ = some z1 ∧ W.cell? ⟨g, 2, none⟩ = some z2 ∧ W.cell? ⟨g, 3, none⟩ = some z3 ∧ W.cell? ⟨g, 4, none⟩ = some z4) ∧ (W.frozen? ⟨g, 0, none⟩ = false ∧ W.frozen? ⟨g, 1, none⟩ = false ∧ W.frozen? ⟨g, 2, none⟩ = false ∧ W.frozen? ⟨g, 3, none⟩ = false ∧ W.frozen? ⟨g, 4, none⟩ = false) :=
  ⟨⟨h.row.cellAt rfl, h.row.cellAt rfl, h.row.cellAt rfl, h.row.cellAt rfl, h.row.cellAt rfl⟩, h.row.frozen, h.row.frozen, h.row.frozen, h.row.frozen, h.row.frozen⟩
theorem Bx.set5 {w W : World} {g : Nat} {t : TypeId} {z0 z1 z2 z3 z4 : Value} (h : Bx w g [z0, z1, z2, z3, z4] t W) (hg : w.heap.size ≤ g) (x0 x1 x2 x3 x4 : Value) : Bx w g [x0, x1, x2, x3, x4] t (((((W.setCell ⟨g, 0, none⟩ x0).setCell ⟨g, 1, none⟩ x1).setCell ⟨g, 2, none⟩ x2).setCell ⟨g, 3, none⟩ x3).setCell ⟨g, 4, none⟩ x4) ∧ Keep (· = g) W (((((W.setCell ⟨g, 0, none⟩ x0).setCell ⟨g, 1, none⟩ x1).setCell ⟨g, 2, none⟩ x2).setCell ⟨g, 3, none⟩ x3).setCell ⟨g, 4, none⟩ x4) := by
  have f := five h.row (x0 := x0) (x1 := x1) (x2 := x2) (x3 := x3) (x4 := x4)
  exact ⟨⟨f.1, h.b.trans (keep_below f.2 (fun k hk e => by omega) h.b.size)⟩, f.2⟩
theorem own_ch (pv : Value) (x : Vn) (w : World) (hp : PcI w pv x.ps) (hx : vnOk x = true) : Calls Try.prog 43 #[vnV (pv, x)] w fun e w' => ∃ ad cap, e = .returned (vnV (.slice ad x.ps.length cap, x)) ∧ OwnP w' w.heap.size 72 (.slice ad x.ps.length cap) x.ps ∧ Below w.heap.size w w' := by
  have h1 := vnOk_ps hx
  have h2 := vnOk_sum hx
  exact own_any pv x w hp (by omega) (fun p hp => by have := (pcOk_id (h1.2.1 p hp)).1; omega) (by omega)
set_option maxRecDepth 100000 in
set_option maxHeartbeats 2000000 in
theorem latest_any (v : Value) (q : List (Value × Vn)) (w : World) (hv : VnI w v q) : Calls Try.prog 22 #[v] w (GiveO w (latV (vqL q)) (latE (vqL q))) := by
  obtain ⟨ad, cap, rfl, hc⟩ := hv.form
  have BM := hid (Bx.made (Below.refl w.heap.size w) [.int .i64 0, .bool false, .int .i64 0, .string ⟨#[]⟩, .slice none 0 0] 24)
  have IC := hid (isChain_any (.slice ad q.length cap) q _ (hv.next BM.out.b))
  have HV : Hid (latV (vqL q) = if isCh (vqL q) = true then (match vqL q with | [] => vn0 | v :: _ => if v.ma = true then vn0 else v) else vn0) := rfl
  have HE : Hid (latE (vqL q) = if isCh (vqL q) = true then (match vqL q with | [] => 4 | v :: _ => if v.ma = true then 130 else 0) else 1) := rfl
  have HAL : Hid (isCh (vqL q) = true → ∀ y ∈ q, vnOk y.2 = true) := fun h y hy => isCh_all h _ (vq_mem hy)
  have NIL : Hid (∀ (E : Int) (W : World), Bx w w.heap.size [.int .i64 0, .bool false, .int .i64 0, .string ⟨#[]⟩, .slice none 0 0] 24 W → GiveO w vn0 E (.returned (.tuple #[.agg #[.int .i64 0, .bool false, .int .i64 0, .string ⟨#[]⟩, .slice none 0 0], .int .i64 E])) W) := fun E W h => ⟨none, 0, rfl, pci_none _, h.b⟩
  generalize hIS : isCh (vqL q) = IS at *
  clear hIS
  generalize latV (vqL q) = LV at *
  generalize latE (vqL q) = LE at *
  go_enter Try.func22, Try.ntmps22
  go_wp2_with fail
  refine IC.out.mono ?_
  rintro e w1 ⟨rfl, b1⟩
  have B1 := hid (BM.out.next b1)
  clear IC b1 BM
  obtain ⟨⟨r0, r1, r2, r3, r4⟩, q0, q1, q2, q3, q4⟩ := B1.out.may
  have BZ := hid (B1.out.set5 (Nat.le_refl _) (.int .i64 0) (.bool false) (.int .i64 0) (.string ⟨#[]⟩) (.slice none 0 0)).1
  cases IS
  · have hv' : LV = vn0 := HV.out
    have he : LE = 1 := HE.out
    subst hv' he
    clear HV HE HAL hc hv B1
    go_wp2
    exact bodyPost_ret (v := .tuple #[.agg #[.int .i64 0, .bool false, .int .i64 0, .string ⟨#[]⟩, .slice none 0 0], .int .i64 1]) (ret_vt (p := 2) (u := 3) rfl _ _ w.heap.size _ _ rfl rfl (run_loadVar_row _ _ _ _ _ _ _ BZ.out.row Try.underlying24 rfl (by kernel_rfl))) rfl (NIL.out _ _ BZ.out)
  · cases q with
    | nil =>
      have hv' : LV = vn0 := HV.out
      have he : LE = 4 := HE.out
      subst hv' he
      simp only [List.length_nil]
      clear HV HE HAL hc hv B1
      go_wp2
      exact bodyPost_ret (v := .tuple #[.agg #[.int .i64 0, .bool false, .int .i64 0, .string ⟨#[]⟩, .slice none 0 0], .int .i64 4]) (ret_vt (p := 2) (u := 3) rfl _ _ w.heap.size _ _ rfl rfl (run_loadVar_row _ _ _ _ _ _ _ BZ.out.row Try.underlying24 rfl (by kernel_rfl))) rfl (NIL.out _ _ BZ.out)
    | cons y r =>
      have HV2 : Hid (LV = if y.2.ma = true then vn0 else y.2) := HV.out
      have HE2 : Hid (LE = if y.2.ma = true then 130 else 0) := HE.out
      have hok := HAL.out rfl y (by simp)
      obtain ⟨b, off, rfl, hb, c0, c1, c2, c3, c4, hp⟩ := hc 0 (by simp)
      simp only [List.getElem_cons_zero, Nat.zero_mul, Nat.add_zero] at c0 c1 c2 c3 c4 hp
      have d0 := (B1.out.b.cell (p := ⟨b, off, none⟩) hb).trans c0
      have d1 := (B1.out.b.cell (p := ⟨b, off + 1, none⟩) hb).trans c1
      have d2 := (B1.out.b.cell (p := ⟨b, off + 2, none⟩) hb).trans c2
      have d3 := (B1.out.b.cell (p := ⟨b, off + 3, none⟩) hb).trans c3
      have d4 := (B1.out.b.cell (p := ⟨b, off + 4, none⟩) hb).trans c4
      have OW := hid (own_ch y.1 y.2 w1 (hp.next B1.out.b) hok)
      have hpf := hp.sl
      have hl0 : (0 : Int) < ((y :: r).length : Int) := by have : (y :: r).length = r.length + 1 := rfl; omega
      have hl1 : (((y :: r).length : Int) == 0) = false := beq_eq_false_iff_ne.2 (by omega)
      clear HV HE HAL hc hv hb c0 c1 c2 c3 c4 hp hok
      generalize (y :: r).length = L at *
      obtain ⟨pv, id, ma, sz, sum, ps⟩ := y
      unfold vnV at OW
      simp only at *
      obtain ⟨ad2, cap2, rfl⟩ := hpf
      cases ma
      · have hv' : LV = ⟨id, false, sz, sum, ps⟩ := HV2.out
        have he : LE = 0 := HE2.out
        subst hv' he
        clear HV2 HE2 BZ r0 r1 r2 r3 r4 q0 q1 q2 q3 q4
        generalize hpn : ps.length = pn at *
        go_wp2_with fail
        refine OW.out.mono ?_
        rintro e w3 ⟨ad', cap', rfl, o3, b3⟩
        have B3 := hid (B1.out.next b3)
        obtain ⟨⟨r0, r1, r2, r3, r4⟩, q0, q1, q2, q3, q4⟩ := B3.out.may
        have S5 := B3.out.set5 (Nat.le_refl _) (.int .i64 id) (.bool false) (.int .i64 sz) (.string sum) (.slice ad' pn cap')
        have B5 := hid S5.1
        have P5 := hid (OwnP.pcs (S5.2.ownsRow o3 (fun g hg e => by have h1 := ownsRow_ge o3 hg; have h2 := B1.out.row.lt; omega)))
        clear S5 o3 b3 B1 B3 OW d0 d1 d2 d3 d4
        go_wp2
        refine bodyPost_ret (v := .tuple #[.agg #[.int .i64 id, .bool false, .int .i64 sz, .string sum, .slice ad' pn cap'], .int .i64 0]) (ret_vt (p := 2) (u := 3) rfl _ _ w.heap.size _ _ rfl rfl (run_loadVar_row _ _ _ _ _ _ _ B5.out.row Try.underlying24 rfl (by kernel_rfl))) rfl ?_
        subst hpn
        exact ⟨ad', cap', rfl, P5.out, B5.out.b⟩
      · have hv' : LV = vn0 := HV2.out
        have he : LE = 130 := HE2.out
        subst hv' he
        clear HV2 HE2 B1 OW
        go_wp2
        exact bodyPost_ret (v := .tuple #[.agg #[.int .i64 0, .bool false, .int .i64 0, .string ⟨#[]⟩, .slice none 0 0], .int .i64 130]) (ret_vt (p := 2) (u := 3) rfl _ _ w.heap.size _ _ rfl rfl (run_loadVar_row _ _ _ _ _ _ _ BZ.out.row Try.underlying24 rfl (by kernel_rfl))) rfl (NIL.out _ _ BZ.out)
set_option maxRecDepth 100000 in
set_option maxHeartbeats 2000000 in
theorem find_any (v : Value) (q : List (Value × Vn)) (n : Int) (w : World) (hv : VnI w v q) : Calls Try.prog 24 #[v, .int .i64 n] w (GiveO w (fdV (vqL q) n) (plE (vqL q) n)) := by
  obtain ⟨ad, cap, rfl, hc⟩ := hv.form
  have BM := hid (Bx.made (Below.refl w.heap.size w) [.int .i64 0, .bool false, .int .i64 0, .string ⟨#[]⟩, .slice none 0 0] 24)
  have PL := hid (place_any (.slice ad q.length cap) q n _ (hv.next BM.out.b))
  have HE := hid (pl_cases (vqL q) n)
  have HAL : Hid (isCh (vqL q) = true → ∀ y ∈ q, vnOk y.2 = true) := fun h y hy => isCh_all h _ (vq_mem hy)
  have NIL : Hid (∀ (E : Int) (W : World), Bx w w.heap.size [.int .i64 0, .bool false, .int .i64 0, .string ⟨#[]⟩, .slice none 0 0] 24 W → GiveO w vn0 E (.returned (.tuple #[.agg #[.int .i64 0, .bool false, .int .i64 0, .string ⟨#[]⟩, .slice none 0 0], .int .i64 E])) W) := fun E W h => ⟨none, 0, rfl, pci_none _, h.b⟩
  have HD : Hid (fdV (vqL q) n = match plO (vqL q) n with | some j => (vqL q).getD j vn0 | none => vn0) := rfl
  rcases HE.out with ⟨h1, h2, h3, h4⟩ | ⟨h1, h2, h3, h4⟩ | ⟨h1, j, h2, h3, h4, h5, h6⟩
  · rw [h3, h4] at PL
    rw [h3]
    rw [h2] at HD
    have hd := HD.out
    rw [hd]
    clear HE HD HAL hc hv h1 h2 h3 h4 hd
    go_enter Try.func24, Try.ntmps24
    go_wp2_with fail
    refine PL.out.mono ?_
    rintro e w1 ⟨rfl, b1⟩
    have B1 := hid (BM.out.next b1)
    clear PL b1 BM
    obtain ⟨⟨r0, r1, r2, r3, r4⟩, q0, q1, q2, q3, q4⟩ := B1.out.may
    have BZ := hid (B1.out.set5 (Nat.le_refl _) (.int .i64 0) (.bool false) (.int .i64 0) (.string ⟨#[]⟩) (.slice none 0 0)).1
    clear B1
    go_wp2
    exact bodyPost_ret (v := .tuple #[.agg #[.int .i64 0, .bool false, .int .i64 0, .string ⟨#[]⟩, .slice none 0 0], .int .i64 1]) (ret_vt (p := 4) (u := 5) rfl _ _ w.heap.size _ _ rfl rfl (run_loadVar_row _ _ _ _ _ _ _ BZ.out.row Try.underlying24 rfl (by kernel_rfl))) rfl (NIL.out _ _ BZ.out)
  · rw [h3, h4] at PL
    rw [h3]
    rw [h2] at HD
    have hd := HD.out
    rw [hd]
    clear HE HD HAL hc hv h1 h2 h3 h4 hd
    go_enter Try.func24, Try.ntmps24
    go_wp2_with fail
    refine PL.out.mono ?_
    rintro e w1 ⟨rfl, b1⟩
    have B1 := hid (BM.out.next b1)
    clear PL b1 BM
    obtain ⟨⟨r0, r1, r2, r3, r4⟩, q0, q1, q2, q3, q4⟩ := B1.out.may
    have BZ := hid (B1.out.set5 (Nat.le_refl _) (.int .i64 0) (.bool false) (.int .i64 0) (.string ⟨#[]⟩) (.slice none 0 0)).1
    clear B1
    go_wp2
    exact bodyPost_ret (v := .tuple #[.agg #[.int .i64 0, .bool false, .int .i64 0, .string ⟨#[]⟩, .slice none 0 0], .int .i64 4]) (ret_vt (p := 4) (u := 5) rfl _ _ w.heap.size _ _ rfl rfl (run_loadVar_row _ _ _ _ _ _ _ BZ.out.row Try.underlying24 rfl (by kernel_rfl))) rfl (NIL.out _ _ BZ.out)
  · rw [h3, h4] at PL
    rw [h3]
    rw [h2] at HD
    have hd := HD.out
    have hj : j < q.length := by rw [vqL_len] at h5; exact h5
    have hd2 : fdV (vqL q) n = q[j].2 := by
      rw [hd]
      show (vqL q).getD j vn0 = _
      rw [List.getD_eq_getElem?_getD, List.getElem?_eq_getElem h5, vqL_get q j hj]
      rfl
    rw [hd2]
    have hok := HAL.out h1 q[j] (List.getElem_mem hj)
    obtain ⟨b, off, rfl, hb, c0, c1, c2, c3, c4, hp⟩ := hc j hj
    have hj0 : (0 : Int) ≤ (j : Int) := by omega
    have hj1 : (j : Int) < (q.length : Int) := by omega
    have HCS : Hid (∀ w', Below w.heap.size w w' → (w'.cell? ⟨b, off + j * 5, none⟩ = some (.int .i64 q[j].2.id) ∧ w'.cell? ⟨b, off + j * 5 + 1, none⟩ = some (.bool q[j].2.ma) ∧ w'.cell? ⟨b, off + j * 5 + 2, none⟩ = some (.int .i64 q[j].2.sz) ∧ w'.cell? ⟨b, off + j * 5 + 3, none⟩ = some (.string q[j].2.sum) ∧ w'.cell? ⟨b, off + j * 5 + 4, none⟩ = some q[j].1)) := fun w' h => ⟨(h.cell (p := ⟨b, off + j * 5, none⟩) hb).trans c0, (h.cell (p := ⟨b, off + j * 5 + 1, none⟩) hb).trans c1, (h.cell (p := ⟨b, off + j * 5 + 2, none⟩) hb).trans c2, (h.cell (p := ⟨b, off + j * 5 + 3, none⟩) hb).trans c3, (h.cell (p := ⟨b, off + j * 5 + 4, none⟩) hb).trans c4⟩
    have OW : Hid (∀ W, Below w.heap.size w W → Calls Try.prog 43 #[vnV q[j]] W fun e w' => ∃ ad cap, e = .returned (vnV (.slice ad q[j].2.ps.length cap, q[j].2)) ∧ OwnP w' W.heap.size 72 (.slice ad q[j].2.ps.length cap) q[j].2.ps ∧ Below W.heap.size W w') := fun W hW => own_ch q[j].1 q[j].2 W (hp.next hW) hok
    have hpf := hp.sl
    clear HE HD HAL hc hv h1 h2 h3 h4 hd h5 h6 hd2 hb c0 c1 c2 c3 c4 hp hok NIL
    generalize q[j] = y at *
    obtain ⟨pv, id, ma, sz, sum, ps⟩ := y
    unfold vnV at OW
    simp only at *
    obtain ⟨ad2, cap2, rfl⟩ := hpf
    generalize hpn : ps.length = pn at *
    go_enter Try.func24, Try.ntmps24
    go_wp2_with fail
    refine PL.out.mono ?_
    rintro e w1 ⟨rfl, b1⟩
    have B1 := hid (BM.out.next b1)
    clear PL b1 BM hj
    obtain ⟨d0, d1, d2, d3, d4⟩ := HCS.out _ B1.out.b
    have O1 := hid (OW.out _ B1.out.b)
    clear OW HCS
    go_wp2_with fail
    refine O1.out.mono ?_
    rintro e w3 ⟨ad', cap', rfl, o3, b3⟩
    have B3 := hid (B1.out.next b3)
    obtain ⟨⟨r0, r1, r2, r3, r4⟩, q0, q1, q2, q3, q4⟩ := B3.out.may
    have S5 := B3.out.set5 (Nat.le_refl _) (.int .i64 id) (.bool ma) (.int .i64 sz) (.string sum) (.slice ad' pn cap')
    have B5 := hid S5.1
    have P5 := hid (OwnP.pcs (S5.2.ownsRow o3 (fun g hg e => by have h1 := ownsRow_ge o3 hg; have h2 := B1.out.row.lt; omega)))
    clear S5 o3 b3 B1 B3 O1 d0 d1 d2 d3 d4
    go_wp2
    refine bodyPost_ret (v := .tuple #[.agg #[.int .i64 id, .bool ma, .int .i64 sz, .string sum, .slice ad' pn cap'], .int .i64 0]) (ret_vt (p := 4) (u := 5) rfl _ _ w.heap.size _ _ rfl rfl (run_loadVar_row _ _ _ _ _ _ _ B5.out.row Try.underlying24 rfl (by kernel_rfl))) rfl ?_
    subst hpn
    exact ⟨ad', cap', rfl, P5.out, B5.out.b⟩
end Go.Proofs.Ytbiapepalkdkdaa
