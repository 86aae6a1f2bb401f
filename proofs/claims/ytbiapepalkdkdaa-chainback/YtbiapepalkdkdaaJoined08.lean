/- Joined: The latest version, and a version by its number: the program. The small run of layer 13: awake answers true. -/
import Derived.Test.YtbiapepalkdkdaaJoined07
import Derived.Laws.ResultCell
import Derived.Test.YtbiapepalkdkdaaJoined03
namespace Go.Proofs.Ytbiapepalkdkdaa
open Go.RowKit Go.Maps
set_option linter.unusedVariables false
set_option linter.unusedSimpArgs false

theorem ret_vt {fn : Func} {p u : Tmp} {ty : TypeId} (h : fn.results = #[.cell p ty, .tmp u]) (tmps : Array Value) (w : World) (g : Nat) (cs : Array Value) (x : Value)
    (hp : tmps.getD p undef = .pointer (some ⟨g, 0, none⟩)) (hx : tmps.getD u undef = x) (hg : (loadVar ty ⟨g, 0, none⟩).run Try.prog w = .ok (.agg cs) w) :
    (results fn tmps).run Try.prog w = .ok (.tuple #[.agg cs, x]) w := by
  rw [results_cell_tmp h, hp, hx]
  simp [asAddr, hg, Result.andThen]
def vn0 : Vn := ⟨0, false, 0, ⟨#[]⟩, []⟩
def latE (l : List Vn) : Int := if isCh l = true then (match l with | [] => 4 | v :: _ => if v.ma = true then 130 else 0) else 1
def latV (l : List Vn) : Vn := if isCh l = true then (match l with | [] => vn0 | v :: _ => if v.ma = true then vn0 else v) else vn0
def fdV (l : List Vn) (n : Int) : Vn := match plO l n with | some j => l.getD j vn0 | none => vn0
/-- a call that gives a version and an error -/
def GiveO (w : World) (x : Vn) (n : Int) (e : Ending) (w' : World) : Prop := ∃ ad cap, e = .returned (.tuple #[vnV (.slice ad x.ps.length cap, x), .int .i64 n]) ∧ PcI w' (.slice ad x.ps.length cap) x.ps ∧ Below w.heap.size w w'
/-- the five cells of a box -/
theorem Bx.may {w W : World} {g : Nat} {t : TypeId} {z0 z1 z2 z3 z4 : Value} (h : Bx w g [z0, z1, z2, z3, z4] t W) : (W.cell? ⟨g, 0, none⟩ = some z0 ∧ W.cell? ⟨g, 1, none⟩ = some z1 ∧ W.cell? ⟨g, 2, none⟩ = some z2 ∧ W.cell? ⟨g, 3, none⟩ = some z3 ∧ W.cell? ⟨g, 4, none⟩ = some z4) ∧ (W.frozen? ⟨g, 0, none⟩ = false ∧ W.frozen? ⟨g, 1, none⟩ = false ∧ W.frozen? ⟨g, 2, none⟩ = false ∧ W.frozen? ⟨g, 3, none⟩ = false ∧ W.frozen? ⟨g, 4, none⟩ = false) :=
  ⟨⟨h.row.cellAt rfl, h.row.cellAt rfl, h.row.cellAt rfl, h.row.cellAt rfl, h.row.cellAt rfl⟩, h.row.frozen, h.row.frozen, h.row.frozen, h.row.frozen, h.row.frozen⟩
theorem Bx.set5 {w W : World} {g : Nat} {t : TypeId} {z0 z1 z2 z3 z4 : Value} (h : Bx w g [z0, z1, z2, z3, z4] t W) (hg : w.heap.size ≤ g) (x0 x1 x2 x3 x4 : Value) : Bx w g [x0, x1, x2, x3, x4] t (((((W.setCell ⟨g, 0, none⟩ x0).setCell ⟨g, 1, none⟩ x1).setCell ⟨g, 2, none⟩ x2).setCell ⟨g, 3, none⟩ x3).setCell ⟨g, 4, none⟩ x4) ∧ Keep (· = g) W (((((W.setCell ⟨g, 0, none⟩ x0).setCell ⟨g, 1, none⟩ x1).setCell ⟨g, 2, none⟩ x2).setCell ⟨g, 3, none⟩ x3).setCell ⟨g, 4, none⟩ x4) := by
  have f := five h.row (x0 := x0) (x1 := x1) (x2 := x2) (x3 := x3) (x4 := x4)
  exact ⟨⟨f.1, h.b.trans (keep_below f.2 (fun k hk e => by omega) h.b.size)⟩, f.2⟩
theorem own_ch (pv : Value) (x : Vn) (w : World) (hp : PcI w pv x.ps) (hx : vnOk x = true) : Calls Try.prog 43 #[vnV (pv, x)] w fun e w' => ∃ ad cap, e = .returned (vnV (.slice ad x.ps.length cap, x)) ∧ OwnP w' w.heap.size 72 (.slice ad x.ps.length cap) x.ps ∧ Below w.heap.size w w' := by
  have h1 := vnOk_ps hx
  have h2 := vnOk_sum hx
  exact own_any pv x w hp (by omega) (fun p hp => by have := (pcOk_id (h1.2.1 p hp)).1; omega) (by omega)
set_option maxRecDepth 100000 in
set_option maxHeartbeats 2000000 in
theorem latest_any (v : Value) (q : List (Value × Vn)) (w : World) (hv : VnI w v q) : Calls Try.prog 22 #[v] w (GiveO w (latV (vqL q)) (latE (vqL q))) := by
  obtain ⟨ad, cap, rfl, hc⟩ := hv.form
  have BM := hid (Bx.made (Below.refl w.heap.size w) [.int .i64 0, .bool false, .int .i64 0, .string ⟨#[]⟩, .slice none 0 0] 24)
  have IC := hid (isChain_any (.slice ad q.length cap) q _ (hv.next BM.out.b))
  have HV : Hid (latV (vqL q) = if isCh (vqL q) = true then (match vqL q with | [] => vn0 | v :: _ => if v.ma = true then vn0 else v) else vn0) := rfl
  have HE : Hid (latE (vqL q) = if isCh (vqL q) = true then (match vqL q with | [] => 4 | v :: _ => if v.ma = true then 130 else 0) else 1) := rfl
  have HAL : Hid (isCh (vqL q) = true → ∀ y ∈ q, vnOk y.2 = true) := fun h y hy => isCh_all h _ (vq_mem hy)
  have NIL : Hid (∀ (E : Int) (W : World), Bx w w.heap.size [.int .i64 0, .bool false, .int .i64 0, .string ⟨#[]⟩, .slice none 0 0] 24 W → GiveO w vn0 E (.returned (.tuple #[.agg #[.int .i64 0, .bool false, .int .i64 0, .string ⟨#[]⟩, .slice none 0 0], .int .i64 E])) W) := fun E W h => ⟨none, 0, rfl, pci_none _, h.b⟩
  generalize hIS : isCh (vqL q) = IS at *
  clear hIS
  generalize latV (vqL q) = LV at *
  generalize latE (vqL q) = LE at *
  go_enter Try.func22, Try.ntmps22
  go_wp2_with fail
  refine IC.out.mono ?_
  rintro e w1 ⟨rfl, b1⟩
  have B1 := hid (BM.out.next b1)
  clear IC b1 BM
  obtain ⟨⟨r0, r1, r2, r3, r4⟩, q0, q1, q2, q3, q4⟩ := B1.out.may
  have BZ := hid (B1.out.set5 (Nat.le_refl _) (.int .i64 0) (.bool false) (.int .i64 0) (.string ⟨#[]⟩) (.slice none 0 0)).1
  cases IS
  · have hv' : LV = vn0 := HV.out
    have he : LE = 1 := HE.out
    subst hv' he
    clear HV HE HAL hc hv B1
    go_wp2
    exact bodyPost_ret (v := .tuple #[.agg #[.int .i64 0, .bool false, .int .i64 0, .string ⟨#[]⟩, .slice none 0 0], .int .i64 1]) (ret_vt (p := 2) (u := 3) rfl _ _ w.heap.size _ _ rfl rfl (run_loadVar_row _ _ _ _ _ _ _ BZ.out.row Try.underlying24 rfl (by kernel_rfl))) rfl (NIL.out _ _ BZ.out)
  · cases q with
    | nil =>
      have hv' : LV = vn0 := HV.out
      have he : LE = 4 := HE.out
      subst hv' he
      simp only [List.length_nil]
      clear HV HE HAL hc hv B1
      go_wp2
      exact bodyPost_ret (v := .tuple #[.agg #[.int .i64 0, .bool false, .int .i64 0, .string ⟨#[]⟩, .slice none 0 0], .int .i64 4]) (ret_vt (p := 2) (u := 3) rfl _ _ w.heap.size _ _ rfl rfl (run_loadVar_row _ _ _ _ _ _ _ BZ.out.row Try.underlying24 rfl (by kernel_rfl))) rfl (NIL.out _ _ BZ.out)
    | cons y r =>
      have HV2 : Hid (LV = if y.2.ma = true then vn0 else y.2) := HV.out
      have HE2 : Hid (LE = if y.2.ma = true then 130 else 0) := HE.out
      have hok := HAL.out rfl y (by simp)
      obtain ⟨b, off, rfl, hb, c0, c1, c2, c3, c4, hp⟩ := hc 0 (by simp)
      simp only [List.getElem_cons_zero, Nat.zero_mul, Nat.add_zero] at c0 c1 c2 c3 c4 hp
      have d0 := (B1.out.b.cell (p := ⟨b, off, none⟩) hb).trans c0
      have d1 := (B1.out.b.cell (p := ⟨b, off + 1, none⟩) hb).trans c1
      have d2 := (B1.out.b.cell (p := ⟨b, off + 2, none⟩) hb).trans c2
      have d3 := (B1.out.b.cell (p := ⟨b, off + 3, none⟩) hb).trans c3
      have d4 := (B1.out.b.cell (p := ⟨b, off + 4, none⟩) hb).trans c4
      have OW := hid (own_ch y.1 y.2 w1 (hp.next B1.out.b) hok)
      have hpf := hp.sl
      have hl0 : (0 : Int) < ((y :: r).length : Int) := by have : (y :: r).length = r.length + 1 := rfl; omega
      have hl1 : (((y :: r).length : Int) == 0) = false := beq_eq_false_iff_ne.2 (by omega)
      clear HV HE HAL hc hv hb c0 c1 c2 c3 c4 hp hok
      generalize (y :: r).length = L at *
      obtain ⟨pv, id, ma, sz, sum, ps⟩ := y
      unfold vnV at OW
      simp only at *
      obtain ⟨ad2, cap2, rfl⟩ := hpf
      cases ma
      · have hv' : LV = ⟨id, false, sz, sum, ps⟩ := HV2.out
        have he : LE = 0 := HE2.out
        subst hv' he
        clear HV2 HE2 BZ r0 r1 r2 r3 r4 q0 q1 q2 q3 q4
        generalize hpn : ps.length = pn at *
        go_wp2_with fail
        refine OW.out.mono ?_
        rintro e w3 ⟨ad', cap', rfl, o3, b3⟩
        have B3 := hid (B1.out.next b3)
        obtain ⟨⟨r0, r1, r2, r3, r4⟩, q0, q1, q2, q3, q4⟩ := B3.out.may
        have S5 := B3.out.set5 (Nat.le_refl _) (.int .i64 id) (.bool false) (.int .i64 sz) (.string sum) (.slice ad' pn cap')
        have B5 := hid S5.1
        have P5 := hid (OwnP.pcs (S5.2.ownsRow o3 (fun g hg e => by have h1 := ownsRow_ge o3 hg; have h2 := B1.out.row.lt; omega)))
        clear S5 o3 b3 B1 B3 OW d0 d1 d2 d3 d4
        go_wp2
        refine bodyPost_ret (v := .tuple #[.agg #[.int .i64 id, .bool false, .int .i64 sz, .string sum, .slice ad' pn cap'], .int .i64 0]) (ret_vt (p := 2) (u := 3) rfl _ _ w.heap.size _ _ rfl rfl (run_loadVar_row _ _ _ _ _ _ _ B5.out.row Try.underlying24 rfl (by kernel_rfl))) rfl ?_
        subst hpn
        exact ⟨ad', cap', rfl, P5.out, B5.out.b⟩
      · have hv' : LV = vn0 := HV2.out
        have he : LE = 130 := HE2.out
        subst hv' he
        clear HV2 HE2 B1 OW
        go_wp2
        exact bodyPost_ret (v := .tuple #[.agg #[.int .i64 0, .bool false, .int .i64 0, .string ⟨#[]⟩, .slice none 0 0], .int .i64 130]) (ret_vt (p := 2) (u := 3) rfl _ _ w.heap.size _ _ rfl rfl (run_loadVar_row _ _ _ _ _ _ _ BZ.out.row Try.underlying24 rfl (by kernel_rfl))) rfl (NIL.out _ _ BZ.out)
set_option maxRecDepth 100000 in
set_option maxHeartbeats 2000000 in
theorem find_any (v : Value) (q : List (Value × Vn)) (n : Int) (w : World) (hv : VnI w v q) : Calls Try.prog 24 #[v, .int .i64 n] w (GiveO w (fdV (vqL q) n) (plE (vqL q) n)) := by
  obtain ⟨ad, cap, rfl, hc⟩ := hv.form
  have BM := hid (Bx.made (Below.refl w.heap.size w) [.int .i64 0, .bool false, .int .i64 0, .string ⟨#[]⟩, .slice none 0 0] 24)
  have PL := hid (place_any (.slice ad q.length cap) q n _ (hv.next BM.out.b))
  have HE := hid (pl_cases (vqL q) n)
  have HAL : Hid (isCh (vqL q) = true → ∀ y ∈ q, vnOk y.2 = true) := fun h y hy => isCh_all h _ (vq_mem hy)
  have NIL : Hid (∀ (E : Int) (W : World), Bx w w.heap.size [.int .i64 0, .bool false, .int .i64 0, .string ⟨#[]⟩, .slice none 0 0] 24 W → GiveO w vn0 E (.returned (.tuple #[.agg #[.int .i64 0, .bool false, .int .i64 0, .string ⟨#[]⟩, .slice none 0 0], .int .i64 E])) W) := fun E W h => ⟨none, 0, rfl, pci_none _, h.b⟩
  have HD : Hid (fdV (vqL q) n = match plO (vqL q) n with | some j => (vqL q).getD j vn0 | none => vn0) := rfl
  rcases HE.out with ⟨h1, h2, h3, h4⟩ | ⟨h1, h2, h3, h4⟩ | ⟨h1, j, h2, h3, h4, h5, h6⟩
  · rw [h3, h4] at PL
    rw [h3]
    rw [h2] at HD
    have hd := HD.out
    rw [hd]
    clear HE HD HAL hc hv h1 h2 h3 h4 hd
    go_enter Try.func24, Try.ntmps24
    go_wp2_with fail
    refine PL.out.mono ?_
    rintro e w1 ⟨rfl, b1⟩
    have B1 := hid (BM.out.next b1)
    clear PL b1 BM
    obtain ⟨⟨r0, r1, r2, r3, r4⟩, q0, q1, q2, q3, q4⟩ := B1.out.may
    have BZ := hid (B1.out.set5 (Nat.le_refl _) (.int .i64 0) (.bool false) (.int .i64 0) (.string ⟨#[]⟩) (.slice none 0 0)).1
    clear B1
    go_wp2
    exact bodyPost_ret (v := .tuple #[.agg #[.int .i64 0, .bool false, .int .i64 0, .string ⟨#[]⟩, .slice none 0 0], .int .i64 1]) (ret_vt (p := 4) (u := 5) rfl _ _ w.heap.size _ _ rfl rfl (run_loadVar_row _ _ _ _ _ _ _ BZ.out.row Try.underlying24 rfl (by kernel_rfl))) rfl (NIL.out _ _ BZ.out)
  · rw [h3, h4] at PL
    rw [h3]
    rw [h2] at HD
    have hd := HD.out
    rw [hd]
    clear HE HD HAL hc hv h1 h2 h3 h4 hd
    go_enter Try.func24, Try.ntmps24
    go_wp2_with fail
    refine PL.out.mono ?_
    rintro e w1 ⟨rfl, b1⟩
    have B1 := hid (BM.out.next b1)
    clear PL b1 BM
    obtain ⟨⟨r0, r1, r2, r3, r4⟩, q0, q1, q2, q3, q4⟩ := B1.out.may
    have BZ := hid (B1.out.set5 (Nat.le_refl _) (.int .i64 0) (.bool false) (.int .i64 0) (.string ⟨#[]⟩) (.slice none 0 0)).1
    clear B1
    go_wp2
    exact bodyPost_ret (v := .tuple #[.agg #[.int .i64 0, .bool false, .int .i64 0, .string ⟨#[]⟩, .slice none 0 0], .int .i64 4]) (ret_vt (p := 4) (u := 5) rfl _ _ w.heap.size _ _ rfl rfl (run_loadVar_row _ _ _ _ _ _ _ BZ.out.row Try.underlying24 rfl (by kernel_rfl))) rfl (NIL.out _ _ BZ.out)
  · rw [h3, h4] at PL
    rw [h3]
    rw [h2] at HD
    have hd := HD.out
    have hj : j < q.length := by rw [vqL_len] at h5; exact h5
    have hd2 : fdV (vqL q) n = q[j].2 := by
      rw [hd]
      show (vqL q).getD j vn0 = _
      rw [List.getD_eq_getElem?_getD, List.getElem?_eq_getElem h5, vqL_get q j hj]
      rfl
    rw [hd2]
    have hok := HAL.out h1 q[j] (List.getElem_mem hj)
    obtain ⟨b, off, rfl, hb, c0, c1, c2, c3, c4, hp⟩ := hc j hj
    have hj0 : (0 : Int) ≤ (j : Int) := by omega
    have hj1 : (j : Int) < (q.length : Int) := by omega
    have HCS : Hid (∀ w', Below w.heap.size w w' → (w'.cell? ⟨b, off + j * 5, none⟩ = some (.int .i64 q[j].2.id) ∧ w'.cell? ⟨b, off + j * 5 + 1, none⟩ = some (.bool q[j].2.ma) ∧ w'.cell? ⟨b, off + j * 5 + 2, none⟩ = some (.int .i64 q[j].2.sz) ∧ w'.cell? ⟨b, off + j * 5 + 3, none⟩ = some (.string q[j].2.sum) ∧ w'.cell? ⟨b, off + j * 5 + 4, none⟩ = some q[j].1)) := fun w' h => ⟨(h.cell (p := ⟨b, off + j * 5, none⟩) hb).trans c0, (h.cell (p := ⟨b, off + j * 5 + 1, none⟩) hb).trans c1, (h.cell (p := ⟨b, off + j * 5 + 2, none⟩) hb).trans c2, (h.cell (p := ⟨b, off + j * 5 + 3, none⟩) hb).trans c3, (h.cell (p := ⟨b, off + j * 5 + 4, none⟩) hb).trans c4⟩
    have OW : Hid (∀ W, Below w.heap.size w W → Calls Try.prog 43 #[vnV q[j]] W fun e w' => ∃ ad cap, e = .returned (vnV (.slice ad q[j].2.ps.length cap, q[j].2)) ∧ OwnP w' W.heap.size 72 (.slice ad q[j].2.ps.length cap) q[j].2.ps ∧ Below W.heap.size W w') := fun W hW => own_ch q[j].1 q[j].2 W (hp.next hW) hok
    have hpf := hp.sl
    clear HE HD HAL hc hv h1 h2 h3 h4 hd h5 h6 hd2 hb c0 c1 c2 c3 c4 hp hok NIL
    generalize q[j] = y at *
    obtain ⟨pv, id, ma, sz, sum, ps⟩ := y
    unfold vnV at OW
    simp only at *
    obtain ⟨ad2, cap2, rfl⟩ := hpf
    generalize hpn : ps.length = pn at *
    go_enter Try.func24, Try.ntmps24
    go_wp2_with fail
    refine PL.out.mono ?_
    rintro e w1 ⟨rfl, b1⟩
    have B1 := hid (BM.out.next b1)
    clear PL b1 BM hj
    obtain ⟨d0, d1, d2, d3, d4⟩ := HCS.out _ B1.out.b
    have O1 := hid (OW.out _ B1.out.b)
    clear OW HCS
    go_wp2_with fail
    refine O1.out.mono ?_
    rintro e w3 ⟨ad', cap', rfl, o3, b3⟩
    have B3 := hid (B1.out.next b3)
    obtain ⟨⟨r0, r1, r2, r3, r4⟩, q0, q1, q2, q3, q4⟩ := B3.out.may
    have S5 := B3.out.set5 (Nat.le_refl _) (.int .i64 id) (.bool ma) (.int .i64 sz) (.string sum) (.slice ad' pn cap')
    have B5 := hid S5.1
    have P5 := hid (OwnP.pcs (S5.2.ownsRow o3 (fun g hg e => by have h1 := ownsRow_ge o3 hg; have h2 := B1.out.row.lt; omega)))
    clear S5 o3 b3 B1 B3 O1 d0 d1 d2 d3 d4
    go_wp2
    refine bodyPost_ret (v := .tuple #[.agg #[.int .i64 id, .bool ma, .int .i64 sz, .string sum, .slice ad' pn cap'], .int .i64 0]) (ret_vt (p := 4) (u := 5) rfl _ _ w.heap.size _ _ rfl rfl (run_loadVar_row _ _ _ _ _ _ _ B5.out.row Try.underlying24 rfl (by kernel_rfl))) rfl ?_
    subst hpn
    exact ⟨ad', cap', rfl, P5.out, B5.out.b⟩
end Go.Proofs.Ytbiapepalkdkdaa
namespace Go.Proofs.Ytbiapepalkdkdaa
open Go.RowKit Go.Maps
set_option linter.unusedVariables false
set_option linter.unusedSimpArgs false

def V3 : Vn := ⟨3, false, 2, ZS, [⟨ZS, 2⟩]⟩
def M5 : Vn := ⟨5, true, 0, ⟨#[]⟩, []⟩
theorem pcs_one (W : World) : PcI (W.alloc (.cells #[.string ZS, .int .i64 2] 72)) (.slice (some ⟨W.heap.size, 0, none⟩) 1 1) [⟨ZS, 2⟩] := RowC.own (own_made W [.string ZS, .int .i64 2] 72 2 1 0 (Nat.zero_le _) rfl (by omega))
set_option maxRecDepth 100000 in
theorem aw_pure : putE [] V3 = 0 ∧ putL [] V3 = [V3] ∧ putE [V3] M5 = 0 ∧ putL [V3] M5 = [M5, V3] ∧ latE [M5, V3] = 130 ∧ plE [M5, V3] 5 = 0 ∧ drL [M5, V3] 5 = [V3] ∧ latE [V3] = 0 ∧ latV [V3] = V3 ∧ latV [M5, V3] = vn0 := by
  have c0 : isCh [] = true := by decide +kernel
  have c1 : isCh [V3] = true := by decide +kernel
  have c2 : isCh [M5, V3] = true := by decide +kernel
  have k3 : vnOk V3 = true := by decide +kernel
  have k5 : vnOk M5 = true := by decide +kernel
  have e1 : putE [] V3 = 0 := by unfold putE; rw [if_pos ⟨c0, k3⟩]; rfl
  have e2 : putE [V3] M5 = 0 := by unfold putE; rw [if_pos ⟨c1, k5⟩]; rfl
  have e3 : plO [M5, V3] 5 = some 0 := by unfold plO; rw [if_pos c2]; rfl
  refine ⟨e1, by unfold putL; rw [if_pos e1], e2, by unfold putL; rw [if_pos e2], by unfold latE; rw [if_pos c2]; rfl, by unfold plE; rw [if_pos c2]; rfl, by unfold drL; rw [e3]; rfl, by unfold latE; rw [if_pos c1]; rfl, by unfold latV; rw [if_pos c1]; rfl, by unfold latV; rw [if_pos c2]; rfl⟩
set_option maxRecDepth 100000 in
set_option maxHeartbeats 2000000 in
theorem awake13 (w : World) : Calls Try.prog 12 #[] w fun e w' => e = .returned (.bool true) ∧ Below w.heap.size w w' := by
  obtain ⟨a1, a2, a3, a4, a5, a6, a7, a8, a9, a10⟩ := aw_pure
  have ZR := hid (fun W => zeros_any W)
  have P1 : Hid (∀ W pv, PcI W pv [⟨ZS, 2⟩] → Calls Try.prog 16 #[.slice none 0 0, .agg #[.int .i64 3, .bool false, .int .i64 2, .string ZS, pv]] W (GiveV W [V3] 0)) := fun W pv h => by
    have := put_any (.slice none 0 0) [] pv V3 W (vni_none _) h
    rw [show vqL [] = [] from rfl, a1, a2] at this
    exact this
  have P2 : Hid (∀ W v q, VnI W v q → vqL q = [V3] → Calls Try.prog 16 #[v, .agg #[.int .i64 5, .bool true, .int .i64 0, .string ⟨#[]⟩, .slice none 0 0]] W (GiveV W [M5, V3] 0)) := fun W v q h e => by
    have := put_any v q (.slice none 0 0) M5 W h (pci_none _)
    rw [e, a3, a4] at this
    exact this
  have L1 : Hid (∀ W v q, VnI W v q → vqL q = [M5, V3] → Calls Try.prog 22 #[v] W (GiveO W vn0 130)) := fun W v q h e => by
    have := latest_any v q W h
    rw [e, a5, a10] at this
    exact this
  have D1 : Hid (∀ W v q, VnI W v q → vqL q = [M5, V3] → Calls Try.prog 19 #[v, .int .i64 5] W (GiveV W [V3] 0)) := fun W v q h e => by
    have := drop_any v q 5 W h
    rw [e, a6, a7] at this
    exact this
  have L2 : Hid (∀ W v q, VnI W v q → vqL q = [V3] → Calls Try.prog 22 #[v] W (GiveO W V3 0)) := fun W v q h e => by
    have := latest_any v q W h
    rw [e, a8, a9] at this
    exact this
  have PO : Hid (∀ W : World, PcI (W.alloc (.cells #[.string ZS, .int .i64 2] 72)) (.slice (some ⟨W.heap.size, 0, none⟩) 1 1) [⟨ZS, 2⟩]) := fun W => pcs_one W
  have HV3 : Hid (∀ (ad : Option Addr) (cap : Nat), vnV (.slice ad V3.ps.length cap, V3) = .agg #[.int .i64 3, .bool false, .int .i64 2, .string ZS, .slice ad 1 cap]) := fun ad cap => rfl
  have HV0 : Hid (∀ (ad : Option Addr) (cap : Nat), vnV (.slice ad vn0.ps.length cap, vn0) = .agg #[.int .i64 0, .bool false, .int .i64 0, .string ⟨#[]⟩, .slice ad 0 cap]) := fun ad cap => rfl
  clear a1 a2 a3 a4 a5 a6 a7 a8 a9 a10
  generalize vn0 = N0 at *
  generalize V3 = A3 at *
  generalize M5 = A5 at *
  generalize ZS = Z at *
  go_enter Try.func12, Try.ntmps12
  go_wp2_with fail
  refine (ZR.out _).mono ?_
  rintro e w1 ⟨rfl, b1⟩
  have B1 := hid b1
  clear b1
  go_wp2_with fail
  refine (ZR.out _).mono ?_
  rintro e w2 ⟨rfl, b2⟩
  have B2 := hid (below_on B1.out b2)
  clear b2 B1 ZR
  have X2 := hid (PO.out w2)
  have BX := hid (Bx.made (below_al B2.out (.cells #[.string Z, .int .i64 2] 72)) [.int .i64 3, .bool false, .int .i64 2, .string Z, .slice (some ⟨w2.heap.size, 0, none⟩) 1 1] 24)
  have X3 : Hid (PcI ((w2.alloc (.cells #[.string Z, .int .i64 2] 72)).alloc (.cells #[.int .i64 3, .bool false, .int .i64 2, .string Z, .slice (some ⟨w2.heap.size, 0, none⟩) 1 1] 24)) (.slice (some ⟨w2.heap.size, 0, none⟩) 1 1) [⟨Z, 2⟩]) := X2.out.next ((Below.refl _ _).alloc (Nat.le_refl _) _)
  obtain ⟨⟨y0, y1, y2, y3, y4⟩, -⟩ := BX.out.may
  clear X2 PO
  go_wp2_with fail
  refine (P1.out _ _ X3.out).mono ?_
  rintro e w3 ⟨ad3, n3, cap3, q3, rfl, hq3, v3, b3⟩
  have Q3 := hid hq3
  have I3 := hid v3
  have B3 := hid (below_on BX.out.b b3)
  clear hq3 v3 b3 P1 X3 BX y0 y1 y2 y3 y4 B2
  go_wp2_with fail
  refine (P2.out _ _ _ I3.out Q3.out).mono ?_
  rintro e w4 ⟨ad4, n4, cap4, q4, rfl, hq4, v4, b4⟩
  have Q4 := hid hq4
  have I4 := hid v4
  have B4 := hid (below_on B3.out b4)
  clear hq4 v4 b4 P2 Q3 I3 B3
  go_wp2_with fail
  refine (L1.out _ _ _ I4.out Q4.out).mono ?_
  rintro e w5 ⟨ad5, cap5, rfl, p5, b5⟩
  rw [HV0.out]
  have I5 := hid (I4.out.next b5)
  have B5 := hid (below_on B4.out b5)
  clear p5 b5 L1 I4 B4
  have I6 : Hid (VnI (w5.alloc (.cells #[.int .i64 0, .bool false, .int .i64 0, .string ⟨#[]⟩, .slice ad5 0 cap5] 24)) (.slice ad4 n4 cap4) q4) := I5.out.next ((Below.refl _ _).alloc (Nat.le_refl _) _)
  go_wp2_with fail
  refine (D1.out _ _ _ I6.out Q4.out).mono ?_
  rintro e w6 ⟨ad6, n6, cap6, q6, rfl, hq6, v6, b6⟩
  have Q6 := hid hq6
  have I7 := hid v6
  have B6 := hid (below_on (below_al B5.out _) b6)
  clear hq6 v6 b6 D1 Q4 I5 I6 B5
  go_wp2_with fail
  refine (L2.out _ _ _ I7.out Q6.out).mono ?_
  rintro e w7 ⟨ad7, cap7, rfl, p7, b7⟩
  rw [HV3.out]
  have B7 := hid (below_on B6.out b7)
  have SR := srow w7 [.int .i64 3, .bool false, .int .i64 2, .string Z, .slice ad7 1 cap7] 24
  have y0 := SR.cellAt (o := 0) rfl
  have y2 := SR.cellAt (o := 2) rfl
  have y4 := SR.cellAt (o := 4) rfl
  have HBF : Hid (∀ X, Below w.heap.size w (w7.alloc X)) := fun X => below_al B7.out _
  clear p7 b7 L2 Q6 I7 B6 SR B7
  go_wp2
  go_ret
  exact ⟨rfl, HBF.out _⟩
end Go.Proofs.Ytbiapepalkdkdaa
