/- The latest version, and a version by its number, by the document. -/
import Derived.Test.YtbiapepalkdkdaaCvP
namespace Go.Proofs.Ytbiapepalkdkdaa
open Go.RowKit Go.Maps
set_option linter.unusedVariables false
set_option linter.unusedSimpArgs false

def gtO (l : List Vn) (o : Option Nat) : Vn := match o with | some j => l.getD j vn0 | none => vn0
set_option maxRecDepth 100000 in
set_option maxHeartbeats 2000000 in
theorem rlatest_any (v : Value) (q : List (Value × Vn)) (w : World) (hv : VnI w v q) (hq : SzQ q) : Calls Try.prog 23 #[v] w (GiveO w (latV (vqL q)) (latE (vqL q))) := by
  obtain ⟨ad, cap, rfl, hc⟩ := hv.form
  have BM := hid (Bx.made (Below.refl w.heap.size w) [.int .i64 0, .bool false, .int .i64 0, .string ⟨#[]⟩, .slice none 0 0] 36)
  have IC := hid (rmay_any (.slice ad q.length cap) q _ (hv.next BM.out.b) hq.1 hq.2)
  have HV : Hid (latV (vqL q) = if isCh (vqL q) = true then (match vqL q with | [] => vn0 | v :: _ => if v.ma = true then vn0 else v) else vn0) := rfl
  have HE : Hid (latE (vqL q) = if isCh (vqL q) = true then (match vqL q with | [] => 4 | v :: _ => if v.ma = true then 130 else 0) else 1) := rfl
  have HAL : Hid (isCh (vqL q) = true → ∀ y ∈ q, vnOk y.2 = true) := fun h y hy => isCh_all h _ (vq_mem hy)
  have NIL : Hid (∀ (E : Int) (W : World), Bx w w.heap.size [.int .i64 0, .bool false, .int .i64 0, .string ⟨#[]⟩, .slice none 0 0] 36 W → GiveO w vn0 E (.returned (.tuple #[.agg #[.int .i64 0, .bool false, .int .i64 0, .string ⟨#[]⟩, .slice none 0 0], .int .i64 E])) W) := fun E W h => ⟨none, 0, rfl, pci_none _, h.b⟩
  generalize hIS : isCh (vqL q) = IS at *
  clear hIS hq
  generalize latV (vqL q) = LV at *
  generalize latE (vqL q) = LE at *
  go_enter Try.func23, Try.ntmps23
  go_wp2_with fail
  refine IC.out.mono ?_
  rintro e w1 ⟨rfl, b1⟩
  have B1 := hid (BM.out.next b1)
  clear IC b1 BM
  obtain ⟨⟨r0, r1, r2, r3, r4⟩, q0, q1, q2, q3, q4⟩ := B1.out.may
  have BZ := hid (B1.out.set5 (Nat.le_refl _) (.int .i64 0) (.bool false) (.int .i64 0) (.string ⟨#[]⟩) (.slice none 0 0)).1
  cases IS
  · have hv' : LV = vn0 := HV.out
    have he : LE = 1 := HE.out
    subst hv' he
    clear HV HE HAL hc hv B1
    go_wp2
    exact bodyPost_ret (v := .tuple #[.agg #[.int .i64 0, .bool false, .int .i64 0, .string ⟨#[]⟩, .slice none 0 0], .int .i64 1]) (ret_vt (p := 2) (u := 3) rfl _ _ w.heap.size _ _ rfl rfl (run_loadVar_row _ _ _ _ _ _ _ BZ.out.row Try.underlying36 rfl (by kernel_rfl))) rfl (NIL.out _ _ BZ.out)
  · cases q with
    | nil =>
      have hv' : LV = vn0 := HV.out
      have he : LE = 4 := HE.out
      subst hv' he
      simp only [List.length_nil]
      clear HV HE HAL hc hv B1
      go_wp2
      exact bodyPost_ret (v := .tuple #[.agg #[.int .i64 0, .bool false, .int .i64 0, .string ⟨#[]⟩, .slice none 0 0], .int .i64 4]) (ret_vt (p := 2) (u := 3) rfl _ _ w.heap.size _ _ rfl rfl (run_loadVar_row _ _ _ _ _ _ _ BZ.out.row Try.underlying36 rfl (by kernel_rfl))) rfl (NIL.out _ _ BZ.out)
    | cons y r =>
      have HV2 : Hid (LV = if y.2.ma = true then vn0 else y.2) := HV.out
      have HE2 : Hid (LE = if y.2.ma = true then 130 else 0) := HE.out
      have hok := HAL.out rfl y (by simp)
      obtain ⟨b, off, rfl, hb, c0, c1, c2, c3, c4, hp⟩ := hc 0 (by simp)
      simp only [List.getElem_cons_zero, Nat.zero_mul, Nat.add_zero] at c0 c1 c2 c3 c4 hp
      have d0 := (B1.out.b.cell (p := ⟨b, off, none⟩) hb).trans c0
      have d1 := (B1.out.b.cell (p := ⟨b, off + 1, none⟩) hb).trans c1
      have d2 := (B1.out.b.cell (p := ⟨b, off + 2, none⟩) hb).trans c2
      have d3 := (B1.out.b.cell (p := ⟨b, off + 3, none⟩) hb).trans c3
      have d4 := (B1.out.b.cell (p := ⟨b, off + 4, none⟩) hb).trans c4
      have HP : Hid (∀ W, Below w.heap.size w W → PcI W y.1 y.2.ps) := fun W hW => hp.next hW
      have hpf := hp.sl
      have hl0 : (0 : Int) < ((y :: r).length : Int) := by have : (y :: r).length = r.length + 1 := rfl; omega
      have hl1 : (((y :: r).length : Int) == 0) = false := beq_eq_false_iff_ne.2 (by omega)
      clear HV HE HAL hc hv hb c0 c1 c2 c3 c4 hp hok
      generalize (y :: r).length = L at *
      obtain ⟨pv, id, ma, sz, sum, ps⟩ := y
      simp only at *
      obtain ⟨ad2, cap2, rfl⟩ := hpf
      cases ma
      · have hv' : LV = ⟨id, false, sz, sum, ps⟩ := HV2.out
        have he : LE = 0 := HE2.out
        subst hv' he
        clear HV2 HE2 BZ
        generalize hpn : ps.length = pn at *
        have S5 := B1.out.set5 (Nat.le_refl _) (.int .i64 id) (.bool false) (.int .i64 sz) (.string sum) (.slice ad2 pn cap2)
        have B5 := hid S5.1
        have P5 := hid (HP.out _ B5.out.b)
        clear S5 B1 HP
        go_wp2
        refine bodyPost_ret (v := .tuple #[.agg #[.int .i64 id, .bool false, .int .i64 sz, .string sum, .slice ad2 pn cap2], .int .i64 0]) (ret_vt (p := 2) (u := 3) rfl _ _ w.heap.size _ _ rfl rfl (run_loadVar_row _ _ _ _ _ _ _ B5.out.row Try.underlying36 rfl (by kernel_rfl))) rfl ?_
        subst hpn
        exact ⟨ad2, cap2, rfl, P5.out, B5.out.b⟩
      · have hv' : LV = vn0 := HV2.out
        have he : LE = 130 := HE2.out
        subst hv' he
        clear HV2 HE2 B1 HP
        go_wp2
        exact bodyPost_ret (v := .tuple #[.agg #[.int .i64 0, .bool false, .int .i64 0, .string ⟨#[]⟩, .slice none 0 0], .int .i64 130]) (ret_vt (p := 2) (u := 3) rfl _ _ w.heap.size _ _ rfl rfl (run_loadVar_row _ _ _ _ _ _ _ BZ.out.row Try.underlying36 rfl (by kernel_rfl))) rfl (NIL.out _ _ BZ.out)
set_option maxRecDepth 100000 in
set_option maxHeartbeats 2000000 in
theorem rfind_any (v : Value) (q : List (Value × Vn)) (n : Int) (w : World) (hv : VnI w v q) (hq : SzQ q) : Calls Try.prog 25 #[v, .int .i64 n] w (GiveO w (fdV (vqL q) n) (plE (vqL q) n)) := by
  obtain ⟨ad, cap, rfl, hc⟩ := hv.form
  have BM := hid (Bx.made (Below.refl w.heap.size w) [.int .i64 0, .bool false, .int .i64 0, .string ⟨#[]⟩, .slice none 0 0] 36)
  have IC := hid (rmay_any (.slice ad q.length cap) q _ (hv.next BM.out.b) hq.1 hq.2)
  have HC := hid hc
  have HLN : Hid (isCh (vqL q) = true → q.length ≤ 32) := fun h => by have := isCh_len h; rw [vqL_len] at this; exact this
  have HE : Hid (plE (vqL q) n = if isCh (vqL q) = true then (if (idxF n (vqL q) 0).isSome = true then 0 else 4) else 1) := rfl
  have HN : Hid (fdV (vqL q) n = gtO (vqL q) (if isCh (vqL q) = true then idxF n (vqL q) 0 else none)) := rfl
  have HI0 : Hid (idxF n (vqL q) 0 = idxF n ((vqL q).drop 0) 0) := rfl
  have HGD : Hid (∀ (k : Nat) (hk : k < q.length), (vqL q).getD k vn0 = q[k].2) := fun k hk => by
    rw [List.getD_eq_getElem?_getD, List.getElem?_eq_getElem (by rw [vqL_len]; exact hk), vqL_get q k hk]; rfl
  have NIL : Hid (∀ (E : Int) (W : World), Bx w w.heap.size [.int .i64 0, .bool false, .int .i64 0, .string ⟨#[]⟩, .slice none 0 0] 36 W → GiveO w vn0 E (.returned (.tuple #[.agg #[.int .i64 0, .bool false, .int .i64 0, .string ⟨#[]⟩, .slice none 0 0], .int .i64 E])) W) := fun E W h => ⟨none, 0, rfl, pci_none _, h.b⟩
  generalize plE _ _ = PE at *
  generalize fdV _ _ = PN at *
  generalize isCh _ = IS at *
  generalize idxF n (vqL q) 0 = R at *
  clear hc hv hq
  go_enter Try.func25, Try.ntmps25
  go_wp2_with fail
  refine IC.out.mono ?_
  rintro e w1 ⟨rfl, b1⟩
  have B1 := hid (BM.out.next b1)
  clear IC b1 BM
  cases IS
  · have he : PE = 1 := HE.out
    have hn : PN = vn0 := HN.out
    subst he hn
    clear HC HLN HE HN HI0 HGD
    obtain ⟨⟨r0, r1, r2, r3, r4⟩, q0, q1, q2, q3, q4⟩ := B1.out.may
    have BZ := hid (B1.out.set5 (Nat.le_refl _) (.int .i64 0) (.bool false) (.int .i64 0) (.string ⟨#[]⟩) (.slice none 0 0)).1
    clear B1
    go_wp2
    exact bodyPost_ret (v := .tuple #[.agg #[.int .i64 0, .bool false, .int .i64 0, .string ⟨#[]⟩, .slice none 0 0], .int .i64 1]) (ret_vt (p := 4) (u := 5) rfl _ _ w.heap.size _ _ rfl rfl (run_loadVar_row _ _ _ _ _ _ _ BZ.out.row Try.underlying36 rfl (by kernel_rfl))) rfl (NIL.out _ _ BZ.out)
  · have HE2 : Hid (PE = (if R.isSome = true then 0 else 4)) := HE.out
    have HN2 : Hid (PN = gtO (vqL q) R) := HN.out
    have HL := hid (HLN.out rfl)
    clear HE HN HLN
    go_wp2
    go_loopw [6] (fun i wr => ∃ (k : Nat), k ≤ q.length ∧ i = .int .i64 (k : Int) ∧ Hid (Bx w w.heap.size [.int .i64 0, .bool false, .int .i64 0, .string ⟨#[]⟩, .slice none 0 0] 36 wr) ∧ Hid (R = idxF n ((vqL q).drop k) k)) (fun i _ => q.length - (intOf i).toNat)
    case atStart => exact ⟨0, Nat.zero_le _, rfl, B1, HI0⟩
    case round =>
      clear HI0 B1
      obtain ⟨k, hk, rfl, BR, HR⟩ := hrel
      by_cases hlt : k < q.length
      · have hk1 : (k : Int) < (q.length : Int) := by omega
        have hk0 : (0 : Int) ≤ (k : Int) := by omega
        have hwk : wrap64 ((k : Int) + 1) = ((k + 1 : Nat) : Int) := by have := HL.out; rw [IntWalk.wrap64_in _ (by omega)]; omega
        obtain ⟨b, off, rfl, hb, c0, c1, c2, c3, c4, hp⟩ := HC.out k hlt
        have d0 := (BR.out.b.cell (p := ⟨b, off + k * 5, none⟩) hb).trans c0
        have d1 := (BR.out.b.cell (p := ⟨b, off + k * 5 + 1, none⟩) hb).trans c1
        have d2 := (BR.out.b.cell (p := ⟨b, off + k * 5 + 2, none⟩) hb).trans c2
        have d3 := (BR.out.b.cell (p := ⟨b, off + k * 5 + 3, none⟩) hb).trans c3
        have d4 := (BR.out.b.cell (p := ⟨b, off + k * 5 + 4, none⟩) hb).trans c4
        have HR2 : Hid (R = if q[k].2.id = n then some k else idxF n ((vqL q).drop (k + 1)) (k + 1)) := by show _ = _; rw [HR.out, idxF_at n (vqL q) k (by rw [vqL_len]; exact hlt), vqL_get q k hlt]
        have HG := hid (HGD.out k hlt)
        have HLT := hid hlt
        have HP : Hid (∀ W, Below w.heap.size w W → PcI W q[k].1 q[k].2.ps) := fun W hW => hp.next hW
        have hpf := hp.sl
        have hk33 : (k : Int) < 33 := by have := HL.out; omega
        clear HC HR c0 c1 c2 c3 c4 hp hb HGD NIL
        generalize q[k] = y at *
        obtain ⟨pv, id, ma, sz, sum, ps⟩ := y
        simp only at *
        obtain ⟨ad2, cap2, rfl⟩ := hpf
        generalize hpn : ps.length = pn at *
        clear hlt hk HL
        by_cases hi : id = n
        · have g1 : (id == n) = true := by rw [hi]; simp
          have hr : R = some k := by rw [HR2.out, if_pos hi]
          have he : PE = 0 := by rw [HE2.out, hr]; rfl
          have hn : PN = ⟨id, ma, sz, sum, ps⟩ := by rw [HN2.out, hr]; exact HG.out
          subst he hn
          clear HE2 HN2 HR2 hi hr HG
          obtain ⟨⟨r0, r1, r2, r3, r4⟩, q0, q1, q2, q3, q4⟩ := BR.out.may
          have B5 := hid (BR.out.set5 (Nat.le_refl _) (.int .i64 id) (.bool ma) (.int .i64 sz) (.string sum) (.slice ad2 pn cap2)).1
          have P5 := hid (HP.out _ B5.out.b)
          clear BR HP
          go_wp2
          refine bodyPost_ret (v := .tuple #[.agg #[.int .i64 id, .bool ma, .int .i64 sz, .string sum, .slice ad2 pn cap2], .int .i64 0]) (ret_vt (p := 4) (u := 5) rfl _ _ w.heap.size _ _ rfl rfl (run_loadVar_row _ _ _ _ _ _ _ B5.out.row Try.underlying36 rfl (by kernel_rfl))) rfl ?_
          subst hpn
          exact ⟨ad2, cap2, rfl, P5.out, B5.out.b⟩
        · have g1 : (id == n) = false := beq_eq_false_iff_ne.2 hi
          have HR3 : Hid (R = idxF n ((vqL q).drop (k + 1)) (k + 1)) := by show _ = _; rw [HR2.out, if_neg hi]
          clear HE2 HN2 HR2 hi HG HP
          go_wp2
          exact ⟨⟨k + 1, HLT.out, by first | rw [hwk] | rfl | simp, BR, HR3⟩, by (try rw [hwk]); have := HLT.out; simp [intOf]; omega⟩
      · have hke : k = q.length := by omega
        have hd : decide ((k : Int) < (q.length : Int)) = false := decide_eq_false (by omega)
        have hd2 : decide (k < q.length) = false := decide_eq_false hlt
        have hr : R = none := by rw [HR.out, List.drop_eq_nil_of_le (by rw [vqL_len]; omega)]; rfl
        have he : PE = 4 := by rw [HE2.out, hr]; rfl
        have hn : PN = vn0 := by rw [HN2.out, hr]; rfl
        subst he hn
        clear HC HR hke hlt hk HL HE2 HN2 hr HGD
        obtain ⟨⟨r0, r1, r2, r3, r4⟩, q0, q1, q2, q3, q4⟩ := BR.out.may
        have BZ := hid (BR.out.set5 (Nat.le_refl _) (.int .i64 0) (.bool false) (.int .i64 0) (.string ⟨#[]⟩) (.slice none 0 0)).1
        clear BR
        go_wp2
        exact bodyPost_ret (v := .tuple #[.agg #[.int .i64 0, .bool false, .int .i64 0, .string ⟨#[]⟩, .slice none 0 0], .int .i64 4]) (ret_vt (p := 4) (u := 5) rfl _ _ w.heap.size _ _ rfl rfl (run_loadVar_row _ _ _ _ _ _ _ BZ.out.row Try.underlying36 rfl (by kernel_rfl))) rfl (NIL.out _ _ BZ.out)
end Go.Proofs.Ytbiapepalkdkdaa
